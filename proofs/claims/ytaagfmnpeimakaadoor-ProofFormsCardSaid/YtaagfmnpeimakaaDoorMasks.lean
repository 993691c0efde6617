/-
  General: a number's low bits, what it leaves by four.
-/
import Derived.Test.YtaagfmnpeimakaaDoorBytes
namespace Go.Proofs.YtaagfmnpeimakaaDoor
open Go.RowKit
set_option maxRecDepth 100000
theorem i64_mask (n : Int) (k : Nat) (h : k < 62) : bits BinOp.and IntKind.i64 n ((2 ^ k - 1 : Nat) : Int) = n % (2 ^ k : Nat) := by
  have hp : 2 ^ k ≤ 2 ^ 62 := Nat.pow_le_pow_right (by omega) (by omega)
  have e : (BitVec.ofInt 64 ((2 ^ k - 1 : Nat) : Int)).toNat = 2 ^ k - 1 := ofInt_i64 _ (by omega)
  show IntKind.i64.wrap ((BitVec.ofInt 64 n &&& BitVec.ofInt 64 ((2 ^ k - 1 : Nat) : Int)).toNat : Int) = _
  have hpos : 0 < 2 ^ k := Nat.two_pow_pos k
  have hlt := Nat.mod_lt (BitVec.ofInt 64 n).toNat hpos
  rw [BitVec.toNat_and, e, Nat.and_two_pow_sub_one_eq_mod, i64_wrap _ (by omega), BitVec.toNat_ofInt]
  have hd : ((2 ^ k : Nat) : Int) ∣ ((2 ^ 64 : Nat) : Int) := by
    rw [Int.natCast_dvd_natCast]
    exact Nat.pow_dvd_pow 2 (by omega)
  have hn : ((n % ((2 ^ 64 : Nat) : Int)).toNat : Int) = n % ((2 ^ 64 : Nat) : Int) := Int.toNat_of_nonneg (Int.emod_nonneg _ (by decide))
  rw [Int.natCast_emod, hn]
  exact Int.emod_emod_of_dvd n hd
/-- So many of a number's low bits, as a natural number. -/
theorem low_bits (n : Int) (k : Nat) (h : k < 62) : ∃ x : Nat, bits BinOp.and IntKind.i64 n ((2 ^ k - 1 : Nat) : Int) = (x : Int) ∧ x < 2 ^ k := by
  refine ⟨(n % (2 ^ k : Nat)).toNat, ?_, ?_⟩
  · rw [i64_mask n k h]
    have := Int.emod_nonneg n (b := ((2 ^ k : Nat) : Int)) (by have := Nat.two_pow_pos k; omega)
    omega
  · have h1 := Int.emod_nonneg n (b := ((2 ^ k : Nat) : Int)) (by have := Nat.two_pow_pos k; omega)
    have h2 := Int.emod_lt_of_pos n (b := ((2 ^ k : Nat) : Int)) (by have := Nat.two_pow_pos k; omega)
    omega
theorem by_four (z : Int) : ∃ x : Nat, wrap64 ((IntKind.u64.wrap z).tmod 4) = (x : Int) ∧ x < 4 := by
  have h0 : 0 ≤ IntKind.u64.wrap z := by
    show 0 ≤ z % 18446744073709551616
    omega
  generalize IntKind.u64.wrap z = y at *
  have hm : y.tmod 4 = y % 4 := Int.tmod_eq_emod_of_nonneg h0
  refine ⟨(y % 4).toNat, ?_, by omega⟩
  rw [hm, IntWalk.wrap64_in _ ⟨by omega, by omega⟩]
  omega
/-- So many new bytes, as a text. -/
theorem zeros_text (w : World) (k : Nat) : (convert 58 9 (.slice (some ⟨w.heap.size, 0, none⟩) k k)).run Tryd.prog (w.alloc (.cells (Lib.byteCells (zeros k)).toArray 5)) = .ok (.string ⟨(zeros k).toArray⟩) (w.alloc (.cells (Lib.byteCells (zeros k)).toArray 5)) := by
  have h := conv_new w (zeros k) _ rfl
  have e : (zeros k).length = k := by simp [zeros]
  rwa [e] at h
theorem zeros_length (k : Nat) : (zeros k).length = k := by simp [zeros]
end Go.Proofs.YtaagfmnpeimakaaDoor
