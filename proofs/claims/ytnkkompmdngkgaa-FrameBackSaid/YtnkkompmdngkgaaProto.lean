/-
  A protocol made of any number.
-/
import Derived.Test.YtnkkompmdngkgaaOwn
import Derived.Test.YtnkkompmdngkgaaRMath
namespace Go.Proofs.Ytnkkompmdngkgaa
open Go.RowKit
theorem i64_or_nat (a b : Nat) (ha : a < 9223372036854775808) (hb : b < 9223372036854775808) : bits .or .i64 (a : Int) (b : Int) = ((a ||| b : Nat) : Int) := by
  have hx : a ||| b < 2 ^ 63 := Nat.or_lt_two_pow (by omega) (by omega)
  show IntKind.i64.wrap ((BitVec.ofInt 64 (a : Int) ||| BitVec.ofInt 64 (b : Int)).toNat : Int) = _
  rw [BitVec.toNat_or, ofInt_i64 a ha, ofInt_i64 b hb, i64_wrap _ (by omega)]
theorem i64_and65278 (n : Int) (q : Nat) (hq : n % 65536 = (q : Int)) : bits BinOp.and IntKind.i64 n 65278 = ((q &&& 65278 : Nat) : Int) := by
  have e : (BitVec.ofInt 64 (65278 : Int)).toNat = 65278 := ofInt_i64 65278 (by omega)
  show IntKind.i64.wrap ((BitVec.ofInt 64 n &&& BitVec.ofInt 64 65278).toNat : Int) = _
  have e2 : (BitVec.ofInt 64 n).toNat &&& 65278 = q &&& 65278 := by
    have e3 : (65278 : Nat) = 65535 &&& 65278 := by decide
    rw [e3, ← Nat.and_assoc, ← Nat.and_assoc, show (65535 : Nat) = 2 ^ 16 - 1 from rfl, Nat.and_two_pow_sub_one_eq_mod, Nat.and_two_pow_sub_one_eq_mod]
    congr 1
    rw [BitVec.toNat_ofInt]
    omega
  have hlt : q &&& 65278 < 2 ^ 63 := Nat.and_lt_two_pow _ (by omega)
  rw [BitVec.toNat_and, e, e2, i64_wrap _ (by omega)]
/-- A protocol made of any number. -/
theorem proto_of (z : Int) : ∃ a n : Nat, bits BinOp.and .i64 z 65278 = (a : Int) ∧ bits BinOp.or .i64 (a : Int) 1 = (n : Int) ∧ Frm.good (n : Int) = true := by
  obtain ⟨q, hq⟩ : ∃ q : Nat, z % 65536 = (q : Int) := ⟨(z % 65536).toNat, by omega⟩
  have ha : q &&& 65278 < 2 ^ 16 := Nat.and_lt_two_pow _ (by omega)
  have hn : (q &&& 65278) ||| 1 < 2 ^ 16 := Nat.or_lt_two_pow ha (by omega)
  refine ⟨q &&& 65278, (q &&& 65278) ||| 1, i64_and65278 z q hq, i64_or_nat _ 1 (by omega) (by omega), ?_⟩
  have h1 : ((q &&& 65278) ||| 1) &&& 257 = 1 := by
    rw [Nat.and_or_distrib_right, Nat.and_assoc, show (65278 : Nat) &&& 257 = 0 from by decide, Nat.and_zero]
    decide
  have h2 := (Frm.and257 _).1 h1
  rw [Frm.good_iff]
  omega
end Go.Proofs.Ytnkkompmdngkgaa
