/-
  What every program of stage 10 answers that is one.
-/
import Derived.Test.YtokkecbnbojlnaaDoorU0
import Derived.Test.YtokkecbnbojlnaaDoorSpoilI
import Derived.Test.YtokkecbnbojlnaaDoorNum
namespace Go.Proofs.YtokkecbnbojlnaaDoor.U
open Go.RowKit
set_option maxHeartbeats 800000 in
theorem awake_any {w : World} (ST : StepOk w) : Calls Tryd.prog 15 #[] w fun e w' => e = .returned (.bool true) ∧ Below w.heap.size w w' := by
  have S1 := Lib.hid (ST.at 2 2 6 0 [5, 7] (by decide +kernel))
  have S2 := Lib.hid (ST.at 9 0 0 1001 [] (by decide +kernel))
  have S3 := Lib.hid (ST.at 10 0 0 1000 [] (by decide +kernel))
  clear ST
  go_enter Tryd.func15, Tryd.ntmps15
  go_wp2_with fail
  refine (S1.out _ (Below.refl _ _)).mono ?_
  rintro e w1 ⟨p1, cap1, rfl, ho1⟩
  have B1 := Lib.hid ho1.2
  have H1 := Lib.hid ho1
  clear ho1
  go_wp2_with fail
  refine (S2.out _ B1.out).mono ?_
  rintro e w2 ⟨p2, cap2, rfl, ho2⟩
  have B2 := Lib.hid (bel2 B1.out ho2.2)
  have H2 := Lib.hid (H1.out.below ho2.2)
  clear ho2
  go_wp2_with fail
  refine (S3.out _ B2.out).mono ?_
  rintro e w3 ⟨p3, cap3, rfl, ho3⟩
  have B3 := Lib.hid (bel2 B2.out ho3.2)
  have A3 := (Below.refl w3.heap.size w3).alloc (Nat.le_refl _) (.cells (cellsI [5, 7]).toArray 3)
  have H3 := Lib.hid ((H2.out.below ho3.2).below A3)
  have L3 := Lib.hid (readsI_lit w3 _ rfl [5, 7] _ rfl)
  have B4 := Lib.hid (bel2 B3.out A3)
  clear ho3 A3
  go_wp2_with (first | (go_at_call 13; refine (num_any _ _).mono ?_; rintro e w9 ⟨rfl, rfl⟩) | (go_at_call 12; refine (sameI_yes H3.out.reads L3.out (by decide)).mono ?_; rintro e w8 ⟨rfl, hb8⟩; have B8 := Lib.hid (bel2 B4.out hb8); clear hb8))
  go_ret
  exact ⟨rfl, B8.out⟩
end Go.Proofs.YtokkecbnbojlnaaDoor.U
