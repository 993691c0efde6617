/-
  The walk of the law of the count that is begun anew.
-/
import Derived.Test.YtokkecbnbojlnaaDoorU9
namespace Go.Proofs.YtokkecbnbojlnaaDoor.Fsm
/-- Where the count was begun last, ahead of place k; -1: nowhere. -/
def bgn (L : List Int) : Nat → Int
  | 0 => -1
  | k + 1 => if L[k]? = some 5 then (k : Int) else bgn L k
def fits (s v : Nat) : Bool := (List.range (place s v).2.1.length).all (fun k => decide (1 ≤ (place s v).2.1.getD k 0) && decide ((place s v).2.1.getD k 0 ≤ 13) && ((place s v).2.1.getD k 0 != 10 || decide (0 ≤ bgn (place s v).2.1 (k + 1)) || v == 4)) &&
  decide (bgn (place s v).2.1 (place s v).2.1.length ≤ 1)
theorem all_fits (s v : Nat) (hs : s < 10) (hv : v < 16) : fits s v = true := by
  have : ∀ s : Fin 10, ∀ v : Fin 16, fits s v = true := by decide +kernel
  exact this ⟨s, hs⟩ ⟨v, hv⟩
theorem counts (s v : Nat) (hs : s < 10) (hv : v < 16) (r : Int × List Int × Int) (hr : place s v = r) : (∀ k (h : k < r.2.1.length), 1 ≤ r.2.1[k] ∧ r.2.1[k] ≤ 13 ∧ (r.2.1[k] = 10 → 0 ≤ bgn r.2.1 (k + 1) ∨ v = 4)) ∧ bgn r.2.1 r.2.1.length ≤ 1 := by
  have h := all_fits s v hs hv
  unfold fits at h
  rw [hr] at h
  simp only [Bool.and_eq_true, List.all_eq_true, List.mem_range, decide_eq_true_eq, Bool.or_eq_true, bne_iff_ne, beq_iff_eq] at h
  refine ⟨fun k hk => ?_, h.2⟩
  have h2 := h.1 k hk
  rw [List.getD_eq_getElem?_getD, List.getElem?_eq_getElem hk] at h2
  simp only [Option.getD_some] at h2
  refine ⟨h2.1.1, h2.1.2, fun e => ?_⟩
  rcases h2.2 with (h3 | h3) | h3
  · exact absurd e h3
  · exact .inl h3
  · exact .inr h3
end Go.Proofs.YtokkecbnbojlnaaDoor.Fsm
namespace Go.Proofs.YtokkecbnbojlnaaDoor.U
open Go.RowKit
set_option maxHeartbeats 1600000 in
theorem counts_never {w : World} (ST : StepOk w) (z y : Int) (s v : Nat) (hz : wrap64 ((IntKind.u64.wrap z).tmod 10) = (s : Int)) (hy : wrap64 ((IntKind.u64.wrap y).tmod 16) = (v : Int))
    (S : Hid (∀ W, Below w.heap.size w W → Calls Tryd.prog 10 #[.int .i64 (s : Int), .int .i64 (v : Int)] W (fun e w' => ∃ t : Nat, StepPost ((t : Int), [], 1001) W e w'))) :
    Calls Tryd.prog 9 #[.int .i64 z, .int .i64 y] w fun e w' => e = .returned (.bool true) ∧ Below w.heap.size w w' := by
  go_enter Tryd.func9, Tryd.ntmps9
  go_wp2_with fail
  refine (awake_any ST).mono ?_
  rintro e wa ⟨rfl, hba⟩
  have BA := Lib.hid hba
  clear hba
  go_wp2_with fail
  refine (S.out _ BA.out).mono ?_
  rintro e w1 ⟨t, p1, cap1, rfl, ho1⟩
  have B1 := Lib.hid (bel2 BA.out ho1.2)
  clear ho1
  go_wp2_with (go_at_call 13; refine (num_any _ _).mono ?_; rintro e w9 ⟨rfl, rfl⟩)
  go_ret
  exact ⟨rfl, B1.out⟩
set_option maxHeartbeats 1600000 in
theorem counts_walk {w : World} (ST : StepOk w) (z y : Int) (s v t : Nat) (L : List Int) (hz : wrap64 ((IntKind.u64.wrap z).tmod 10) = (s : Int)) (hy : wrap64 ((IntKind.u64.wrap y).tmod 16) = (v : Int)) (hL : L.length ≤ 3)
    (HF : Hid (∀ k (h : k < L.length), 1 ≤ L[k] ∧ L[k] ≤ 13 ∧ (L[k] = 10 → 0 ≤ Fsm.bgn L (k + 1) ∨ v = 4))) (HE : Hid (Fsm.bgn L L.length ≤ 1))
    (S : Hid (∀ W, Below w.heap.size w W → Calls Tryd.prog 10 #[.int .i64 (s : Int), .int .i64 (v : Int)] W (StepPost ((t : Int), L, 0) W))) :
    Calls Tryd.prog 9 #[.int .i64 z, .int .i64 y] w fun e w' => e = .returned (.bool true) ∧ Below w.heap.size w w' := by
  go_enter Tryd.func9, Tryd.ntmps9
  go_wp2_with fail
  refine (awake_any ST).mono ?_
  rintro e wa ⟨rfl, hba⟩
  have BA := Lib.hid hba
  clear hba
  go_wp2_with fail
  refine (S.out _ BA.out).mono ?_
  rintro e w1 ⟨p1, cap1, rfl, ho1⟩
  have B1 := Lib.hid (bel2 BA.out ho1.2)
  obtain ⟨p, cap, b, off, hv, _, _, hi, hc0⟩ := ho1.reads.at
  simp only [Value.slice.injEq] at hv
  obtain ⟨rfl, _, rfl⟩ := hv
  have HI := Lib.hid hi
  have HC := Lib.hid hc0
  clear ho1 hi hc0
  go_wp2_with (go_at_call 13; refine (num_any _ _).mono ?_; rintro e w9 ⟨rfl, rfl⟩)
  go_loopw [10, 11] (fun d i wr => ∃ (k : Nat) (g : Int), k ≤ L.length ∧ i = .int .i64 k ∧ d = .int .i64 g ∧ Hid (Fsm.bgn L k = g) ∧ Below w1.heap.size w1 wr) (fun _ i _ => L.length - (intOf i).toNat)
  case atStart => exact ⟨0, -1, by omega, rfl, rfl, Lib.hid rfl, Below.refl _ _⟩
  case round =>
    obtain ⟨k, g, hk, rfl, rfl, HG, hb⟩ := hrel
    have HB := Lib.hid hb
    clear hb
    by_cases hlt : k < L.length
    · have hi := HI.out k hlt
      have c0 := HC.out k hlt
      rw [← HB.out.cell (block_lt_of_cell c0)] at c0
      have HS : Hid (Fsm.bgn L (k + 1) = if L[k] = 5 then (k : Int) else g) := Lib.hid (by rw [← HG.out]; simp [Fsm.bgn, List.getElem?_eq_getElem hlt])
      obtain ⟨h1, h13, h10⟩ := HF.out k hlt
      generalize L[k] = x at *
      obtain ⟨o8, ho8⟩ : ∃ o8, o8 = off + k := ⟨_, rfl⟩
      rw [← ho8] at hi c0
      clear ho8
      have H10 := Lib.hid h10
      clear h10
      by_cases h5 : x = 5
      · subst h5
        have HS2 : Hid (Fsm.bgn L (k + 1) = k) := Lib.hid HS.out
        clear HS H10 h1 h13
        go_wp2_with fail
        go_roundw
        case rel => exact ⟨k + 1, k, by omega, by go_num, rfl, HS2, HB.out⟩
        case measure => simp [intOf]; omega
      · have HS2 : Hid (Fsm.bgn L (k + 1) = g) := Lib.hid (by rw [HS.out, if_neg h5])
        clear HS
        by_cases h10 : x = 10
        · subst h10
          have h3 := H10.out rfl
          rw [HS2.out] at h3
          clear H10 h1 h13
          rcases h3 with h3 | rfl
          · go_wp2_with fail
            go_roundw
            case rel => exact ⟨k + 1, g, by omega, by go_num, rfl, HS2, HB.out⟩
            case measure => simp [intOf]; omega
          · by_cases hg : g < 0
            · go_wp2_with fail
              go_roundw
              case rel => exact ⟨k + 1, g, by omega, by go_num, rfl, HS2, HB.out⟩
              case measure => simp [intOf]; omega
            · go_wp2_with fail
              go_roundw
              case rel => exact ⟨k + 1, g, by omega, by go_num, rfl, HS2, HB.out⟩
              case measure => simp [intOf]; omega
        · clear H10
          go_wp2_with fail
          go_roundw
          case rel => exact ⟨k + 1, g, by omega, by go_num, rfl, HS2, HB.out⟩
          case measure => simp [intOf]; omega
    · obtain rfl : k = L.length := by omega
      have he := HE.out
      rw [HG.out] at he
      have B2 := Lib.hid (bel2 B1.out HB.out)
      clear HG hlt HC HI HE HF
      by_cases hg : g < 0
      all_goals go_wp2_with fail
      all_goals go_ret
      all_goals exact ⟨rfl, B2.out⟩
theorem walk_fsmCounts {w : World} (ST : StepOk w) (z y : Int) : Calls Tryd.prog 9 #[.int .i64 z, .int .i64 y] w fun e w' => e = .returned (.bool true) ∧ Below w.heap.size w w' := by
  obtain ⟨s, hz, hs⟩ := by_mod z 10 (by decide) (by decide)
  obtain ⟨v, hy, hv⟩ := by_mod y 16 (by decide) (by decide)
  obtain ⟨t, L, e, _, hL, hp, he, S⟩ := ST.place s v (by omega) (by omega)
  rcases he with rfl | ⟨rfl, rfl⟩
  · obtain ⟨h1, h2⟩ := Fsm.counts s v (by omega) (by omega) _ hp
    exact counts_walk ST z y s v t L hz hy hL (Lib.hid h1) (Lib.hid h2) S
  · exact counts_never ST z y s v hz hy (Lib.hid fun W hW => (S.out W hW).mono fun e w' h => ⟨t, h⟩)
end Go.Proofs.YtokkecbnbojlnaaDoor.U
