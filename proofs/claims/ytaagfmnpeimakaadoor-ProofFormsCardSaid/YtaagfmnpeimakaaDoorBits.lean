/-
  General: a number's low bits as a natural number.
-/
import Derived.Test.YtaagfmnpeimakaaDoorOwn
namespace Go.Proofs.YtaagfmnpeimakaaDoor
open Go.RowKit
theorem low_bits_of (n : Int) (k : Nat) (h : k < 62) : bits BinOp.and IntKind.i64 n ((2 ^ k - 1 : Nat) : Int) = n % (2 ^ k : Nat) := by
  have hp : 2 ^ k ≤ 2 ^ 62 := Nat.pow_le_pow_right (by omega) (by omega)
  have e : (BitVec.ofInt 64 ((2 ^ k - 1 : Nat) : Int)).toNat = 2 ^ k - 1 := by
    rw [BitVec.toNat_ofInt]
    omega
  show IntKind.i64.wrap ((BitVec.ofInt 64 n &&& BitVec.ofInt 64 ((2 ^ k - 1 : Nat) : Int)).toNat : Int) = _
  have hpos : 0 < 2 ^ k := Nat.two_pow_pos k
  have hlt := Nat.mod_lt (BitVec.ofInt 64 n).toNat hpos
  rw [BitVec.toNat_and, e, Nat.and_two_pow_sub_one_eq_mod, IntWalk.i64_in _ (by omega), BitVec.toNat_ofInt]
  have hd : ((2 ^ k : Nat) : Int) ∣ ((2 ^ 64 : Nat) : Int) := by
    rw [Int.natCast_dvd_natCast]
    exact Nat.pow_dvd_pow 2 (by omega)
  have hn : ((n % ((2 ^ 64 : Nat) : Int)).toNat : Int) = n % ((2 ^ 64 : Nat) : Int) := Int.toNat_of_nonneg (Int.emod_nonneg _ (by decide))
  rw [Int.natCast_emod, hn]
  exact Int.emod_emod_of_dvd n hd
theorem low_nat (n : Int) (k : Nat) (h : k < 62) : ∃ x : Nat, bits BinOp.and IntKind.i64 n ((2 ^ k - 1 : Nat) : Int) = (x : Int) ∧ x < 2 ^ k := by
  have h1 := Int.emod_nonneg n (b := ((2 ^ k : Nat) : Int)) (by have := Nat.two_pow_pos k; omega)
  have h2 := Int.emod_lt_of_pos n (b := ((2 ^ k : Nat) : Int)) (by have := Nat.two_pow_pos k; omega)
  exact ⟨(n % (2 ^ k : Nat)).toNat, by rw [low_bits_of n k h]; omega, by omega⟩
theorem low_63 (n : Int) : ∃ x : Nat, bits BinOp.and IntKind.i64 n 63 = (x : Int) ∧ x < 64 := low_nat n 6 (by omega)
theorem low_255 (n : Int) : ∃ x : Nat, bits BinOp.and IntKind.i64 n 255 = (x : Int) ∧ x < 256 := low_nat n 8 (by omega)
theorem low_511 (n : Int) : ∃ x : Nat, bits BinOp.and IntKind.i64 n 511 = (x : Int) ∧ x < 512 := low_nat n 9 (by omega)
theorem low_1023 (n : Int) : ∃ x : Nat, bits BinOp.and IntKind.i64 n 1023 = (x : Int) ∧ x < 1024 := low_nat n 10 (by omega)
end Go.Proofs.YtaagfmnpeimakaaDoor
