/-
  The walk of the law of all the table's places.
-/
import Derived.Test.YtokkecbnbojlnaaDoorA1
namespace Go.Proofs.YtokkecbnbojlnaaDoor.U
open Go.RowKit
set_option maxHeartbeats 1600000 in
theorem walk_fsmTable {w : World} (ST : StepOk w) : Calls Tryd.prog 4 #[] w fun e w' => e = .returned (.bool true) ∧ Below w.heap.size w w' := by
  have SR : Hid (∀ (k j : Nat), ∃ t e L, Hid (L.length ≤ 4611686018427387904) ∧ Hid (∀ W, Below w.heap.size w W → Calls Tryd.prog 10 #[.int .i64 (k : Int), .int .i64 (j : Int)] W (StepPost (t, L, e) W)) ∧ Hid (∀ W, Calls Tryd.prog 11 #[.int .i64 (k : Int), .int .i64 (j : Int)] W (StepPost (t, L, e) W))) := Lib.hid fun k j =>
    ⟨(Fsm.step k j).1, (Fsm.step k j).2.2, (Fsm.step k j).2.1, Lib.hid (by have := place_short k j; omega), Lib.hid fun W hW => ST.out _ _ W hW, Lib.hid fun W => ref_any _ _ W⟩
  go_enter Tryd.func4, Tryd.ntmps4
  go_wp2_with fail
  go_loopw [1] (fun i wr => ∃ k : Nat, k ≤ 10 ∧ i = .int .i64 k ∧ Below w.heap.size w wr) (fun i _ => 10 - (intOf i).toNat)
  case atStart => exact ⟨0, by omega, rfl, Below.refl _ _⟩
  case round =>
    obtain ⟨k, hk, rfl, hb⟩ := hrel
    have HB := Lib.hid hb
    clear hb
    by_cases hlt : k < 10
    · have q10 : decide ((k : Int) < 10) = true := decide_eq_true (by omega)
      go_wp2_with fail
      go_loopw [2] (fun i wq => ∃ j : Nat, j ≤ 16 ∧ i = .int .i64 j ∧ Below w.heap.size w wq) (fun i _ => 16 - (intOf i).toNat)
      case atStart => exact ⟨0, by omega, rfl, HB.out⟩
      case round =>
        obtain ⟨j, hj, rfl, hb⟩ := hrel
        have HB := Lib.hid hb
        clear hb
        by_cases hlt2 : j < 16
        · obtain ⟨t, e0, L, HL, S, R⟩ := SR.out k j
          have qt : (t != t) = false := by simp
          have qe : (e0 != e0) = false := by simp
          go_wp2_with fail
          refine (S.out _ HB.out).mono ?_
          rintro e w1 ⟨p1, cap1, rfl, ho1⟩
          have B1 := Lib.hid (bel2 HB.out ho1.2)
          have C1 := Lib.hid ho1
          clear ho1
          go_wp2_with fail
          refine (R.out _).mono ?_
          rintro e w2 ⟨p2, cap2, rfl, ho2⟩
          have B2 := Lib.hid (bel2 B1.out ho2.2)
          have C2 := Lib.hid (C1.out.below ho2.2)
          have D2 := Lib.hid ho2
          clear ho2
          go_wp2_with (first | (go_at_call 13; refine (num_any _ _).mono ?_; rintro e w9 ⟨rfl, rfl⟩) | (go_at_call 12; refine (sameI_yes C2.out.reads D2.out.reads HL.out).mono ?_; rintro e w8 ⟨rfl, hb8⟩; have B8 := Lib.hid (bel2 B2.out hb8); clear hb8))
          go_roundw
          case rel => exact ⟨j + 1, by omega, by go_num, B8.out⟩
          case measure => simp [intOf]; omega
        · obtain rfl : j = 16 := by omega
          go_wp2_with fail
          go_roundw
          case rel => exact ⟨k + 1, by omega, by go_num, HB.out⟩
          case measure => simp [intOf]; omega
    · obtain rfl : k = 10 := by omega
      go_wp2_with (refine (awake_any (ST.later HB.out)).mono ?_; rintro e wd ⟨rfl, hbd⟩; have BD := Lib.hid (bel2 HB.out hbd); clear hbd)
      go_ret
      exact ⟨rfl, BD.out⟩
end Go.Proofs.YtokkecbnbojlnaaDoor.U
