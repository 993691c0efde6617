/-
  Plain arithmetic: the register behind a text and its own sum.
-/
import Derived.Test.YtnkkompmdngkgaaMath
namespace Go.Proofs.Ytnkkompmdngkgaa.Crc
theorem low_high8 (x : Nat) : x = (256 * (x / 256)) ^^^ (x % 256) := by
  apply Nat.eq_of_testBit_eq
  intro i
  have e1 : 256 * (x / 256) = 2 ^ 8 * (x / 2 ^ 8) := by simp
  have e2 : x % 256 = x % 2 ^ 8 := by simp
  rw [Nat.testBit_xor, e1, e2, Nat.testBit_mod_two_pow, Nat.testBit_two_pow_mul, Nat.testBit_div_two_pow]
  by_cases h : i < 8
  · simp [h, show ¬ 8 ≤ i by omega]
  · simp [h, show 8 ≤ i by omega, show i - 8 + 8 = i by omega]
theorem steps8_high (h : Nat) : steps 8 (256 * h) = h := by
  rw [show (8 : Nat) = 4 + 4 from rfl, steps_add, show 256 * h = 16 * (16 * h) by omega, steps4_high, steps4_high]
/-- Two bytes at once. -/
theorem byte_two (r x : Nat) : byte (byte r (x % 256)) (x / 256) = steps 16 (r ^^^ x) := by
  unfold byte
  rw [show (16 : Nat) = 8 + 8 from rfl, steps_add]
  conv => rhs; rw [low_high8 x]
  rw [Nat.xor_comm (256 * (x / 256)) (x % 256), ← Nat.xor_assoc, steps_xor 8 (r ^^^ x % 256), steps8_high]
/-- The register behind a text and its own sum is the same for all texts. -/
theorem reg_put (l : List UInt8) : reg (put l) = steps 16 65535 := by
  have h := sum_lt l
  have h2 : (UInt8.ofNat (sum l / 256)).toNat = sum l / 256 := by simp; omega
  have h1 : (UInt8.ofNat (sum l % 256)).toNat = sum l % 256 := by simp
  rw [put, reg_append]
  show byte (byte (reg l) (UInt8.ofNat (sum l % 256)).toNat) (UInt8.ofNat (sum l / 256)).toNat = _
  rw [h1, h2, byte_two, sum, ← Nat.xor_assoc, Nat.xor_self, Nat.zero_xor]
theorem sum_put (l : List UInt8) : sum (put l) = sum (put []) := by rw [sum, reg_put, sum, reg_put]
end Go.Proofs.Ytnkkompmdngkgaa.Crc
