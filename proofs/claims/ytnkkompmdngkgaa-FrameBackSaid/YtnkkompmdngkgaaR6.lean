/-
  The contract of the program's Get of a frame, whole.
-/
import Derived.Test.YtnkkompmdngkgaaR5
import Derived.Test.YtnkkompmdngkgaaRMath2
namespace Go.Proofs.Ytnkkompmdngkgaa.R
open Go.RowKit
/-- A frame as a value. -/
def fr (x : Int × List UInt8) : Value := .agg #[.int .i64 x.1, .string ⟨x.2.toArray⟩]
theorem tail_two (a b : UInt8) (d : List UInt8) : (ByteArray.mk (a :: b :: d).toArray).extract 2 (ByteArray.mk (a :: b :: d).toArray).size = ⟨d.toArray⟩ := (head_of [a, b] d rfl).2
theorem fget_any (l : List UInt8) (w : World) (h : l.length ≤ 268435456) :
    Calls Try.prog 16 #[.string ⟨l.toArray⟩] w fun e w' => e = .returned (.tuple #[fr (Frm.get l).1, .int .i64 (Frm.get l).2]) ∧ Below w.heap.size w w' := by
  have hl := Frm.get_len l
  have G := fun w => S.get_list l w h
  rcases Frm.get_ways l with ⟨h1, h2⟩ | ⟨h1, h3, h2⟩ | ⟨h1, h3, h4, h2⟩ | ⟨p, q, h1, h3, h4, h5, h6, h7, h8, h2⟩ | ⟨a, b, d, h1, h3, h4, h5, h6, h2⟩
  · rw [h2]
    exact get_unstuffed _ _ _ w (by omega) (Lib.hid G)
  · rw [h2]
    rw [h1] at G
    exact get_small _ _ w (by rw [sz]; exact h3) (Lib.hid G)
  · rw [h2]
    rw [h1] at G
    have K := fun w => F.check_list (Stf.get l).1 w (by rw [sz]; omega)
    exact get_unsummed _ _ _ _ w (by rw [sz]; exact h3) (by rw [sz]; omega) h4 (Lib.hid G) (Lib.hid K)
  · rw [h2]
    rw [h1] at G
    have K := fun w => F.check_list (Stf.get l).1 w (by rw [sz]; omega)
    rw [h4, h5] at K
    have C := fun w => cut_no p q w h6 h7 (by omega)
    exact get_headless _ _ _ _ w (by rw [sz]; exact h3) (by rw [sz]; omega) (Lib.hid G) (Lib.hid K) (Lib.hid C)
  · rw [h2]
    rw [h1] at G
    have K := fun w => F.check_list (Stf.get l).1 w (by rw [sz]; omega)
    rw [h4, h5] at K
    have C := fun w => cut_yes (a :: b :: d) w (by simp; omega)
    have J := fun w => judge_any ((256 * a.toNat + b.toNat : Nat) : Int) ⟨d.toArray⟩ w (by rw [sz]; unfold maxLen; omega)
    rw [sz] at J
    unfold Frm.told
    by_cases hc : Frm.code ((256 * a.toNat + b.toNat : Nat) : Int) d.length = 0
    · rw [if_pos hc]
      rw [hc] at J
      exact get_good _ _ _ _ _ _ w (by rw [sz]; exact h3) (by rw [sz]; omega) (by rw [sz]; simp) (by rw [sz]; simp; omega) (tail_two a b d) (high_low a b) (Lib.hid G) (Lib.hid K) (Lib.hid C) (Lib.hid J)
    · rw [if_neg hc]
      exact get_judged _ _ _ _ _ _ _ w hc (by rw [sz]; exact h3) (by rw [sz]; omega) (by rw [sz]; simp) (by rw [sz]; simp; omega) (tail_two a b d) (high_low a b) (Lib.hid G) (Lib.hid K) (Lib.hid C) (Lib.hid J)
end Go.Proofs.Ytnkkompmdngkgaa.R
