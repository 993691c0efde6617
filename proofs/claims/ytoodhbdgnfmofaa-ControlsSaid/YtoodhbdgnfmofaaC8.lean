/-
  Contract of the laws' own helper: two packets of one content are the same.
-/
import Derived.Test.YtoodhbdgnfmofaaLaterO
import Derived.Test.YtoodhbdgnfmofaaBox
namespace Go.Proofs.Ytoodhbdgnfmofaa.C
open Go.RowKit
set_option maxHeartbeats 800000 in
theorem samep_any (c i : Int) (va vb : Value) (os : List Opt.Op) (d : ByteArray) (W : World) (ha : ReadsO W va os) (hb : ReadsO W vb os) (hl : os.length ≤ 4611686018427387904) :
    Calls Try.prog 14 #[.agg #[.int .i64 c, .int .i64 i, va, .string d], .agg #[.int .i64 c, .int .i64 i, vb, .string d]] W fun e w' => e = .returned (.bool true) ∧ Below W.heap.size W w' := by
  have HB := Lib.hid (((Below.refl W.heap.size W).alloc (Nat.le_refl _) (.cells #[.int .i64 c, .int .i64 i, va, .string d] 24)).alloc (by simp) (.cells #[.int .i64 c, .int .i64 i, vb, .string d] 24))
  have S := Lib.hid (O.same_yes va vb os _ (ha.below HB.out) (hb.below HB.out) hl)
  have q1 : (c == c) = true := by simp
  have q2 : (i == i) = true := by simp
  clear ha hb
  go_enter Try.func14, Try.ntmps14
  go_wp2_with (refine S.out.mono ?_; rintro e w1 ⟨rfl, hb1⟩; have HB1 := Lib.hid (bel2 HB.out hb1); clear hb1)
  go_ret
  exact ⟨rfl, HB1.out⟩
end Go.Proofs.Ytoodhbdgnfmofaa.C
