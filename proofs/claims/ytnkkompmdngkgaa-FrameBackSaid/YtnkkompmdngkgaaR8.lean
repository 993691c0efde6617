/-
  The contract of the document's own Unframe, whole; what every program answers that is one.
-/
import Derived.Test.YtnkkompmdngkgaaR7
namespace Go.Proofs.Ytnkkompmdngkgaa.R
open Go.RowKit
theorem head_four (p d : List UInt8) (h : p.length = 4) : (ByteArray.mk (p ++ d).toArray).extract 4 (ByteArray.mk (p ++ d).toArray).size = ⟨d.toArray⟩ := by
  apply ByteArray.ext; apply Array.toList_inj.1
  simp [ByteArray.data_extract, List.extract, h, ByteArray.size]
theorem high_low2 (a b : UInt8) : wrap64 (wrap64 (wrap64 (a.toNat : Int) * 256) + wrap64 (b.toNat : Int)) = ((256 * a.toNat + b.toNat : Nat) : Int) := by
  have ha := a.toNat_lt
  have hb := b.toNat_lt
  have e1 : wrap64 (a.toNat : Int) = (a.toNat : Int) := wrap64_nat _ (by omega)
  have e2 : wrap64 (b.toNat : Int) = (b.toNat : Int) := wrap64_nat _ (by omega)
  have e3 : wrap64 ((a.toNat : Int) * 256) = ((256 * a.toNat : Nat) : Int) := by
    have := wrap64_nat (256 * a.toNat) (by omega)
    rw [← this]
    congr 1
    omega
  rw [e1, e3, e2]
  have := wrap64_nat (256 * a.toNat + b.toNat) (by omega)
  rw [← this]
  congr 1
theorem unframe_any (l : List UInt8) (w : World) (h : l.length ≤ 268435456) :
    Calls Try.prog 17 #[.string ⟨l.toArray⟩] w fun e w' => e = .returned (.tuple #[fr (Frm.get l).1, .int .i64 (Frm.get l).2]) ∧ Below w.heap.size w w' := by
  have hl := Frm.get_len l
  have G := fun w => S.unstuff_list l w h
  rcases Frm.get_ways l with ⟨h1, h2⟩ | ⟨h1, h3, h2⟩ | ⟨h1, h3, h4, h2⟩ | ⟨p, q, h1, h3, h4, h5, h6, h7, h8, h2⟩ | ⟨a, b, d, h1, h3, h4, h5, h6, h2⟩
  · rw [h2]
    exact un_unstuffed _ _ _ w (by omega) (Lib.hid G)
  · rw [h2]
    rw [h1] at G
    exact un_small _ _ w (by rw [sz]; exact h3) (Lib.hid G)
  · rw [h2]
    rw [h1] at G
    have K := fun w => F.unsum_list (Stf.get l).1 w (by rw [sz]; unfold maxLen; omega)
    exact un_unsummed _ _ _ _ w (by rw [sz]; exact h3) (by rw [sz]; omega) h4 (Lib.hid G) (Lib.hid K)
  · rw [h2]
    rw [h1] at G
    have K := fun w => F.unsum_list (Stf.get l).1 w (by rw [sz]; unfold maxLen; omega)
    have hz := Frm.check_len _ h4
    rw [h5] at hz
    rw [h4, h5] at K
    exact un_headless _ _ _ p w (by rw [sz]; exact h3) (by rw [sz]; omega) (by rw [sz]; simp; omega) (by rw [sz]; omega) (head_of p q h6).1 h7 (Lib.hid G) (Lib.hid K)
  · rw [h2]
    rw [h1] at G
    have K := fun w => F.unsum_list (Stf.get l).1 w (by rw [sz]; unfold maxLen; omega)
    rw [h4, h5] at K
    have J := fun w => protoMay_any ((256 * a.toNat + b.toNat : Nat) : Int) w
    have z1 : (ByteArray.mk ([255, 3] ++ (a :: b :: d)).toArray).size = d.length + 4 := by rw [sz]; simp
    unfold Frm.told
    rcases Frm.code_ways ((256 * a.toNat + b.toNat : Nat) : Int) d.length with ⟨g1, g2⟩ | ⟨g1, g3, g2⟩ | ⟨g1, g3, g2⟩
    · rw [g2, if_neg (by decide)]
      rw [g1] at J
      exact un_bad _ _ _ _ w (by rw [sz]; exact h3) (by rw [sz]; omega) (by omega) (by omega) (head_of [255, 3] (a :: b :: d) rfl).1 (Lib.hid G) (Lib.hid K) (Lib.hid J) (high_low2 a b)
    · rw [g2, if_neg (by decide)]
      rw [g1] at J
      exact un_long _ _ _ _ w (by rw [sz]; exact h3) (by rw [sz]; omega) (by omega) (by omega) (head_of [255, 3] (a :: b :: d) rfl).1 (by omega) (Lib.hid G) (Lib.hid K) (Lib.hid J) (high_low2 a b)
    · rw [g2, if_pos rfl]
      rw [g1] at J
      exact un_good _ _ _ _ _ w (by rw [sz]; exact h3) (by rw [sz]; omega) (by omega) (by omega) (head_of [255, 3] (a :: b :: d) rfl).1 (head_four [255, 3, a, b] d rfl) (by omega) (Lib.hid G) (Lib.hid K) (Lib.hid J) (high_low2 a b)
end Go.Proofs.Ytnkkompmdngkgaa.R
