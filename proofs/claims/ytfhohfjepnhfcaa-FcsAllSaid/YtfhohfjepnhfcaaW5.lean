/-
  The walks of the laws of the sums: each returns true and writes nothing that was there.
-/
import Derived.Test.YtfhohfjepnhfcaaW4
namespace Go.Proofs.Ytfhohfjepnhfcaa
open Go.RowKit
set_option maxHeartbeats 400000 in
theorem walk_all (s : ByteArray) (_hs : s.size ≤ maxLen) (w : World) (hr : s.size ≤ 140737488351232) : Calls Try.prog 3 #[.string s] w fun e w' => e = .returned (.bool true) ∧ Below w.heap.size w w' := by
  have C1 := Lib.hid fun w => check_any s w (by omega)
  have C2 := Lib.hid fun w => unsum_any s w (by unfold maxLen; omega)
  have C3 := Lib.hid fun w => of_any s w (by unfold maxLen; omega)
  have C4 := Lib.hid fun w => ref_any s w (by unfold maxLen; omega)
  have C5 := Lib.hid fun w => put_any s w (by unfold maxLen; omega)
  have C6 := Lib.hid fun w => sum_any s w (by unfold maxLen; omega)
  generalize Crc.check s.data.toList = ck at *
  generalize Crc.sum s.data.toList = sm at *
  generalize Crc.put s.data.toList = pt at *
  obtain ⟨cs, cn⟩ := ck
  go_enter Try.func3, Try.ntmps3
  go_wp2_with fail
  refine (C1.out _).mono ?_
  rintro e w1 ⟨rfl, hb1⟩
  go_wp2_with fail
  refine (C2.out _).mono ?_
  rintro e w2 ⟨rfl, hb2⟩
  go_wp2_with fail
  refine (C3.out _).mono ?_
  rintro e w3 ⟨rfl, hb3⟩
  go_wp2_with fail
  refine (C4.out _).mono ?_
  rintro e w4 ⟨rfl, rfl⟩
  go_wp2_with fail
  refine (C5.out _).mono ?_
  rintro e w5 ⟨rfl, hb5⟩
  go_wp2_with fail
  refine (C6.out _).mono ?_
  rintro e w6 ⟨rfl, hb6⟩
  go_wp2_with fail
  refine (num_any _ _).mono ?_
  rintro e w7 ⟨rfl, rfl⟩
  go_wp2_with fail
  refine (awake_any _).mono ?_
  rintro e w8 ⟨rfl, hb8⟩
  go_wp2_with fail
  go_ret
  exact ⟨rfl, bel2 (bel2 (bel2 (bel2 (bel2 hb1 hb2) hb3) hb5) hb6) hb8⟩
end Go.Proofs.Ytfhohfjepnhfcaa
