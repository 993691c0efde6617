/-
  Two bytes as one number, the high one first: by shift and or, by times and plus.
-/
import Derived.Test.YtiadndcodjpijaaOwn
namespace Go.Proofs.Ytiadndcodjpijaa
open Go.RowKit
theorem i64_or_nat (a b : Nat) (ha : a < 9223372036854775808) (hb : b < 9223372036854775808) : bits .or .i64 (a : Int) (b : Int) = ((a ||| b : Nat) : Int) := by
  have hx : a ||| b < 2 ^ 63 := Nat.or_lt_two_pow (by omega) (by omega)
  show IntKind.i64.wrap ((BitVec.ofInt 64 (a : Int) ||| BitVec.ofInt 64 (b : Int)).toNat : Int) = _
  rw [BitVec.toNat_or, ofInt_i64 a ha, ofInt_i64 b hb, i64_wrap _ (by omega)]
theorem high_or (a b : UInt8) : bits BinOp.or IntKind.i64 (wrap64 (wrap64 (a.toNat : Int) * 256)) (wrap64 (b.toNat : Int)) = ((a.toNat * 256 + b.toNat : Nat) : Int) := by
  have ha := a.toNat_lt
  have hb := b.toNat_lt
  have e1 : wrap64 (a.toNat : Int) = (a.toNat : Int) := wrap64_nat _ (by omega)
  have e2 : wrap64 (b.toNat : Int) = (b.toNat : Int) := wrap64_nat _ (by omega)
  have e3 : wrap64 ((a.toNat : Int) * 256) = ((256 * a.toNat : Nat) : Int) := by
    have := wrap64_nat (256 * a.toNat) (by omega)
    rw [← this]
    congr 1
    omega
  rw [e1, e2, e3]
  have : a.toNat * 256 + b.toNat = (256 * a.toNat) ||| b.toNat := by
    have h := Nat.two_pow_add_eq_or_of_lt (i := 8) (b := b.toNat) (by omega) a.toNat
    rw [Nat.mul_comm]
    simpa using h
  rw [this]
  exact i64_or_nat _ _ (by omega) (by omega)
theorem high_plus (a b : UInt8) : wrap64 (wrap64 (wrap64 (a.toNat : Int) * 256) + wrap64 (b.toNat : Int)) = ((a.toNat * 256 + b.toNat : Nat) : Int) := by
  have ha := a.toNat_lt
  have hb := b.toNat_lt
  have e1 : wrap64 (a.toNat : Int) = (a.toNat : Int) := wrap64_nat _ (by omega)
  have e2 : wrap64 (b.toNat : Int) = (b.toNat : Int) := wrap64_nat _ (by omega)
  have e3 : wrap64 ((a.toNat : Int) * 256) = ((a.toNat * 256 : Nat) : Int) := by
    have := wrap64_nat (a.toNat * 256) (by omega)
    rw [← this]
    congr 1
  rw [e1, e3, e2]
  have := wrap64_nat (a.toNat * 256 + b.toNat) (by omega)
  rw [← this]
  congr 1
end Go.Proofs.Ytiadndcodjpijaa
