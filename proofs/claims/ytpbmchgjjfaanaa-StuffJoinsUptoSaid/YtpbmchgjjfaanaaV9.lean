/-
  What every program answers that is one; the contracts at texts that are lists.
-/
import Derived.Test.YtpbmchgjjfaanaaV8
import Derived.Test.YtpbmchgjjfaanaaV5
namespace Go.Proofs.Ytpbmchgjjfaanaa
open Go.RowKit
theorem put_list (l : List UInt8) (z : Int) (w : World) (h : l.length ≤ 268435456) : Calls Try.prog 13 #[.string ⟨l.toArray⟩, .int .i64 z] w fun e w' => e = .returned (.string ⟨(Stf.put z l).toArray⟩) ∧ Below w.heap.size w w' := by
  simpa using put_any ⟨l.toArray⟩ z w (by rw [sz]; exact h)
theorem get_list (l : List UInt8) (w : World) (h : l.length ≤ 268435456) : Calls Try.prog 9 #[.string ⟨l.toArray⟩] w fun e w' => e = .returned (.tuple #[.string ⟨(Stf.get l).1.toArray⟩, .int .i64 (Stf.get l).2]) ∧ Below w.heap.size w w' := by
  simpa using get_any ⟨l.toArray⟩ w (by rw [sz]; exact h)
theorem split_list (l : List UInt8) (w : World) (h : l.length ≤ 268435456) : Calls Try.prog 11 #[.string ⟨l.toArray⟩] w (SplitPost l w) := by
  simpa using split_any ⟨l.toArray⟩ w (by rw [sz]; exact h)
theorem same_yes (va vb : Value) (la : List (List UInt8)) (W : World) (ha : Reads W va la) (hb : Reads W vb la) (hla : la.length ≤ 1073741824) :
    Calls Try.prog 16 #[va, vb] W fun e w' => e = .returned (.bool true) ∧ Below W.heap.size W w' := by
  have h := same_any va vb la la W ha hb hla hla
  rwa [decide_eq_true rfl] at h
theorem awake1 : Stf.get [97, 125, 94, 98] = ([97, 126, 98], 0) := by decide +kernel
theorem awake2 : Stf.get [125] = ([], 200) := by decide +kernel
theorem awake3 : Stf.get [126] = ([], 201) := by decide +kernel
theorem awake4 : Stf.split [120, 126, 97, 98, 126, 126, 99, 126, 100] = ([[97, 98], [99]], [100]) := by decide +kernel
theorem awake5 : Stf.put 2 [126, 1] = [125, 94, 125, 33] := by decide +kernel
set_option maxHeartbeats 800000 in
theorem awake_any (w : World) : Calls Try.prog 17 #[] w fun e w' => e = .returned (.bool true) ∧ Below w.heap.size w w' := by
  have c1 := fun w => get_list [97, 125, 94, 98] w (by decide)
  have c2 := fun w => get_list [125] w (by decide)
  have c3 := fun w => get_list [126] w (by decide)
  have c4 := fun w => split_list [120, 126, 97, 98, 126, 126, 99, 126, 100] w (by decide)
  have c5 := fun w => put_list [126, 1] 2 w (by decide)
  rw [awake1] at c1
  rw [awake2] at c2
  rw [awake3] at c3
  rw [awake5] at c5
  unfold SplitPost at c4
  rw [awake4] at c4
  have C1 := Lib.hid c1
  have C2 := Lib.hid c2
  have C3 := Lib.hid c3
  have C4 := Lib.hid c4
  have C5 := Lib.hid c5
  clear c1 c2 c3 c4 c5
  go_enter Try.func17, Try.ntmps17
  go_wp2_with fail
  refine (C1.out _).mono ?_
  rintro e w1 ⟨rfl, hb1⟩
  have B1 := Lib.hid hb1
  clear hb1
  go_wp2_with fail
  refine (C2.out _).mono ?_
  rintro e w2 ⟨rfl, hb2⟩
  have B2 := Lib.hid (bel2 B1.out hb2)
  clear hb2
  go_wp2_with fail
  refine (C3.out _).mono ?_
  rintro e w3 ⟨rfl, hb3⟩
  have B3 := Lib.hid (bel2 B2.out hb3)
  clear hb3
  go_wp2_with fail
  refine (C4.out _).mono ?_
  rintro e w4 ⟨v, rfl, ho⟩
  have B4 := Lib.hid (bel2 B3.out ho.2)
  have R4 := Lib.hid ho.reads
  clear ho
  go_wp2_with fail
  refine (C5.out _).mono ?_
  rintro e w5 ⟨rfl, hb5⟩
  have B5 := Lib.hid (bel2 B4.out hb5)
  have R5 := Lib.hid (R4.out.below hb5)
  clear hb5
  go_wp2_with (go_at_call 15; refine (num_any _ _).mono ?_; rintro e w9 ⟨rfl, rfl⟩)
  refine (same_yes _ _ [[97, 98], [99]] _ (R5.out.below ((Below.refl _ _).alloc (Nat.le_refl _) _)) (reads_of_cells _ _ _ _ (new_cells _ _ _)) (by decide)).mono ?_
  rintro e w6 ⟨rfl, hb6⟩
  have B6 := Lib.hid (bel2 (B5.out.alloc B5.out.size _) hb6)
  clear hb6
  go_wp2_with fail
  go_ret
  exact ⟨rfl, B6.out⟩
end Go.Proofs.Ytpbmchgjjfaanaa
