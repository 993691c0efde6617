/-
  The program's row of rules: which rule a kind has.
-/
import Derived.Test.YtiadndcodjpijaaPr5
namespace Go.Proofs.Ytiadndcodjpijaa.Pr
open Go.RowKit
/-- Which of the six a kind is; six if it is none. -/
def at' (z : Int) : Nat := if z = 1 then 0 else if z = 5 then 1 else if z = 17 then 2 else if z = 18 then 3 else if z = 19 then 4 else if z = 23 then 5 else 6
theorem at_kind (k : Nat) (hk : k < 6) : at' (kind k) = k := by
  match k, hk with
  | 0, _ => rfl
  | 1, _ => rfl
  | 2, _ => rfl
  | 3, _ => rfl
  | 4, _ => rfl
  | 5, _ => rfl
theorem kind_at (z : Int) (h : at' z < 6) : kind (at' z) = z := by
  unfold at' at *
  split
  · subst z; rfl
  · split
    · subst z; rfl
    · split
      · subst z; rfl
      · split
        · subst z; rfl
        · split
          · subst z; rfl
          · split
            · subst z; rfl
            · simp_all
theorem at_le (z : Int) : at' z ≤ 6 := by
  unfold at'
  repeat (first | omega | split)
def found (B n : Nat) : Value := if n < 6 then .tuple #[.iface (tys n) (rcv B n), .bool true] else .tuple #[.nilIface, .bool false]
theorem ret_eq {a b : Value} (h : a = b) : Ending.returned a = .returned b := by rw [h]
set_option maxHeartbeats 1600000 in
set_option maxRecDepth 100000 in
theorem rule_any (B : Nat) (y : Int) (w : World) : Calls Try.prog 20 #[.agg (scs B).toArray, .int .i64 y] w fun e w' => e = .returned (found B (at' y)) ∧ Below w.heap.size w w' := by
  have LD := Lib.hid (side_load (side_box B w))
  have HB := Lib.hid ((Below.refl w.heap.size w).alloc (Nat.le_refl _) (.cells (scs B).toArray 51))
  obtain ⟨SC, hSC⟩ : ∃ SC, SC = (scs B).toArray := ⟨_, rfl⟩
  rw [← hSC] at LD HB ⊢
  have HSC := Lib.hid hSC
  have AL := Lib.hid (at_le y)
  clear hSC
  go_enter Try.func20, Try.ntmps20
  go_wp2_with (refine wpList_load rfl 51 _ rfl ⟨w.heap.size, 0, none⟩ _ rfl LD.out ?_)
  go_loopw [9] (fun i wr => ∃ k : Nat, k ≤ 6 ∧ i = .int .i64 (k : Int) ∧ k ≤ at' y ∧ Below w.heap.size w wr) (fun i _ => 6 - (intOf i).toNat)
  case atStart => exact ⟨0, by omega, rfl, Nat.zero_le _, HB.out⟩
  case round =>
    clear LD HB
    obtain ⟨k, hk, rfl, ha, hb⟩ := hrel
    have HA := Lib.hid ha
    have HB := Lib.hid hb
    clear ha hb
    by_cases hlt : k < 6
    · obtain ⟨T, R, z, hp⟩ := plc (B := B) hlt HSC.out
      have HP := Lib.hid hp
      clear hp
      cases hm : (z == y)
      · have hk1 : k + 1 ≤ at' y := by
          have h1 := HA.out
          by_cases e : k = at' y
          · have h2 := kind_at y (by omega)
            rw [← e, ← HP.out.2.2.2.2] at h2
            rw [h2] at hm
            simp at hm
          · omega
        have HA2 := Lib.hid hk1
        clear hk1
        go_wp2_with (first | (refine step_place HP.out rfl _ _ rfl rfl rfl ?_))
        have HB2 := Lib.hid (HB.out.alloc HB.out.size (.cells #[.int .i64 z, .iface T R] 49))
        go_roundw
        case rel => exact ⟨k + 1, by omega, by go_num, HA2.out, HB2.out⟩
        case measure => simp [intOf]; omega
      · have hk1 : at' y = k := by
          rw [← beq_iff_eq.1 hm, HP.out.2.2.2.2]
          exact at_kind k hlt
        have HF : Hid (found B (at' y) = .tuple #[.iface T R, .bool true]) := Lib.hid (by
          rw [hk1, HP.out.2.2.1, HP.out.2.2.2.1]
          exact if_pos hlt)
        clear hk1
        go_wp2_with (first | (refine step_place HP.out rfl _ _ rfl rfl rfl ?_))
        go_returns
        exact ⟨ret_eq HF.out.symm, HB.out.alloc HB.out.size _⟩
    · obtain rfl : k = 6 := by omega
      have HF : Hid (found B (at' y) = .tuple #[.nilIface, .bool false]) := Lib.hid (by
        have h1 := HA.out
        unfold found
        rw [if_neg (by omega)])
      go_wp2_with fail
      go_returns
      exact ⟨ret_eq HF.out.symm, HB.out⟩
theorem rule_hit (B k : Nat) (hk : k < 6) (w : World) : Calls Try.prog 20 #[.agg (scs B).toArray, .int .i64 (kind k)] w fun e w' => e = .returned (.tuple #[.iface (tys k) (rcv B k), .bool true]) ∧ Below w.heap.size w w' := by
  have h := rule_any B (kind k) w
  rw [at_kind k hk, show found B k = .tuple #[.iface (tys k) (rcv B k), .bool true] from if_pos hk] at h
  exact h
theorem rule_miss (B : Nat) (y : Int) (hy : ¬ at' y < 6) (w : World) : Calls Try.prog 20 #[.agg (scs B).toArray, .int .i64 y] w fun e w' => e = .returned (.tuple #[.nilIface, .bool false]) ∧ Below w.heap.size w w' := by
  have h := rule_any B y w
  rw [show found B (at' y) = .tuple #[.nilIface, .bool false] from if_neg hy] at h
  exact h
end Go.Proofs.Ytiadndcodjpijaa.Pr
