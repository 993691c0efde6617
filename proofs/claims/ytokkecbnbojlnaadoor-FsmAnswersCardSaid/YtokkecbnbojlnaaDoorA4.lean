/-
  The walk of the law of a lower layer that goes down.
-/
import Derived.Test.YtokkecbnbojlnaaDoorU9
namespace Go.Proofs.YtokkecbnbojlnaaDoor.Fsm
theorem downs (s : Nat) (hs : s < 10) : if s ≤ 1 then place s 1 = (0, [], 1001) else (place s 1).2.2 = 0 ∧ ((place s 1).1 = 0 ∨ (place s 1).1 = 1) ∧ (place s 1).2.1.any (· == 2) = (s == 9) := by
  have : ∀ s : Fin 10, if s.val ≤ 1 then place s 1 = (0, [], 1001) else (place s 1).2.2 = 0 ∧ ((place s 1).1 = 0 ∨ (place s 1).1 = 1) ∧ (place s 1).2.1.any (· == 2) = (s.val == 9) := by decide +kernel
  exact this ⟨s, hs⟩
end Go.Proofs.YtokkecbnbojlnaaDoor.Fsm
namespace Go.Proofs.YtokkecbnbojlnaaDoor.U
open Go.RowKit
set_option maxHeartbeats 1600000 in
theorem downs_few {w : World} (ST : StepOk w) (z : Int) (o : Bool) (s : Nat) (hz : wrap64 ((IntKind.u64.wrap z).tmod 10) = (s : Int)) (hs : s ≤ 1)
    (S : Hid (∀ W, Below w.heap.size w W → Calls Tryd.prog 10 #[.int .i64 (s : Int), .int .i64 1] W (StepPost (0, [], 1001) W))) :
    Calls Tryd.prog 7 #[.int .i64 z, .bool o] w fun e w' => e = .returned (.bool true) ∧ Below w.heap.size w w' := by
  go_enter Tryd.func7, Tryd.ntmps7
  go_wp2_with fail
  refine (awake_any ST).mono ?_
  rintro e wa ⟨rfl, hba⟩
  have BA := Lib.hid hba
  clear hba
  go_wp2_with fail
  refine (S.out _ BA.out).mono ?_
  rintro e w1 ⟨p1, cap1, rfl, ho1⟩
  have B1 := Lib.hid (bel2 BA.out ho1.2)
  clear ho1
  go_wp2_with (go_at_call 13; refine (num_any _ _).mono ?_; rintro e w9 ⟨rfl, rfl⟩)
  go_ret
  exact ⟨rfl, B1.out⟩
set_option maxHeartbeats 1600000 in
theorem downs_more {w : World} (ST : StepOk w) (z : Int) (o : Bool) (s t : Nat) (L : List Int) (hz : wrap64 ((IntKind.u64.wrap z).tmod 10) = (s : Int)) (hs : ¬s ≤ 1) (hL : L.length ≤ 3) (ht : Hid (t = 0 ∨ t = 1)) (hd : Hid (L.any (· == 2) = (s == 9)))
    (S : Hid (∀ W, Below w.heap.size w W → Calls Tryd.prog 10 #[.int .i64 (s : Int), .int .i64 1] W (StepPost ((t : Int), L, 0) W))) :
    Calls Tryd.prog 7 #[.int .i64 z, .bool o] w fun e w' => e = .returned (.bool true) ∧ Below w.heap.size w w' := by
  go_enter Tryd.func7, Tryd.ntmps7
  go_wp2_with fail
  refine (awake_any ST).mono ?_
  rintro e wa ⟨rfl, hba⟩
  have BA := Lib.hid hba
  clear hba
  go_wp2_with fail
  refine (S.out _ BA.out).mono ?_
  rintro e w1 ⟨p1, cap1, rfl, ho1⟩
  have B1 := Lib.hid (bel2 BA.out ho1.2)
  obtain ⟨p, cap, b, off, hv, _, _, hi, hc⟩ := ho1.reads.at
  simp only [Value.slice.injEq] at hv
  obtain ⟨rfl, _, rfl⟩ := hv
  have HI := Lib.hid hi
  have HC := Lib.hid hc
  clear ho1 hi hc
  go_wp2_with fail
  go_loopw [9, 10] (fun d i wr => ∃ (k : Nat) (q : Bool), k ≤ L.length ∧ i = .int .i64 k ∧ d = .bool q ∧ Hid ((L.take k).any (· == 2) = q) ∧ Below w1.heap.size w1 wr) (fun _ i _ => L.length - (intOf i).toNat)
  case atStart => exact ⟨0, false, by omega, rfl, rfl, Lib.hid rfl, Below.refl _ _⟩
  case round =>
    obtain ⟨k, q, hk, rfl, rfl, HQ, hb⟩ := hrel
    have HB := Lib.hid hb
    clear hb
    by_cases hlt : k < L.length
    · have hi := HI.out k hlt
      have c0 := HC.out k hlt
      rw [← HB.out.cell (block_lt_of_cell c0)] at c0
      have HS : Hid ((L.take (k + 1)).any (· == 2) = (q || L[k] == 2)) := Lib.hid (by rw [List.take_succ_eq_append_getElem hlt, List.any_append, HQ.out]; simp)
      generalize L[k] = x at *
      obtain ⟨o8, ho8⟩ : ∃ o8, o8 = off + k := ⟨_, rfl⟩
      rw [← ho8] at hi c0
      clear ho8
      cases q
      · have HS2 : Hid ((L.take (k + 1)).any (· == 2) = (x == 2)) := Lib.hid HS.out
        clear HS
        go_wp2_with fail
        go_roundw
        case rel => exact ⟨k + 1, _, by omega, by go_num, rfl, HS2, HB.out⟩
        case measure => simp [intOf]; omega
      · have HS2 : Hid ((L.take (k + 1)).any (· == 2) = true) := Lib.hid HS.out
        clear HS
        go_wp2_with fail
        go_roundw
        case rel => exact ⟨k + 1, _, by omega, by go_num, rfl, HS2, HB.out⟩
        case measure => simp [intOf]; omega
    · obtain rfl : k = L.length := by omega
      have hq := HQ.out
      rw [List.take_length, hd.out] at hq
      have B2 := Lib.hid (bel2 B1.out HB.out)
      have h := ht.out
      clear HQ hlt HC HI
      have hn : ((s : Int) == 9) = q := by rw [← hq, Bool.eq_iff_iff]; simp; omega
      clear hq
      rcases h with rfl | rfl <;> cases q <;> cases o
      all_goals go_wp2_with (go_at_call 13; refine (num_any _ _).mono ?_; rintro e w9 ⟨rfl, rfl⟩)
      all_goals go_ret
      all_goals exact ⟨rfl, B2.out⟩
theorem walk_fsmDowns {w : World} (ST : StepOk w) (z : Int) (o : Bool) : Calls Tryd.prog 7 #[.int .i64 z, .bool o] w fun e w' => e = .returned (.bool true) ∧ Below w.heap.size w w' := by
  obtain ⟨s, hz, hs⟩ := by_mod z 10 (by decide) (by decide)
  have hs : s < 10 := by omega
  obtain ⟨t, L, e, _, hL, hp, _, S⟩ := ST.place s 1 hs (by decide)
  have h := Fsm.downs s hs
  rw [hp] at h
  by_cases h1 : s ≤ 1
  · rw [if_pos h1] at h
    simp only [Prod.mk.injEq] at h
    obtain ⟨h0, rfl, rfl⟩ := h
    refine downs_few ST z o s hz h1 (Lib.hid fun W hW => ?_)
    have hS := S.out W hW
    rwa [h0] at hS
  · rw [if_neg h1] at h
    obtain ⟨h2, h3, h4⟩ := h
    simp only at h2 h3 h4
    subst h2
    exact downs_more ST z o s t L hz h1 hL (Lib.hid (by omega)) (Lib.hid h4) S
end Go.Proofs.YtokkecbnbojlnaaDoor.U
