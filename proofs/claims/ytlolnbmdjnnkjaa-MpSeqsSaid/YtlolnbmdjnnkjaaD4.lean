/-
  Contracts of the program's Put and Get of fragments, whole.
-/
import Derived.Test.YtlolnbmdjnnkjaaD2
import Derived.Test.YtlolnbmdjnnkjaaD3
namespace Go.Proofs.Ytlolnbmdjnnkjaa.D
open Go.RowKit
/-- A fragment and an error beside it. -/
def FragPost (r : Mph.Frag × Int) (w : World) (e : Ending) (w' : World) : Prop := e = .returned (.tuple #[fg r.1.1 r.1.2.1 r.1.2.2.1 ⟨r.1.2.2.2.toArray⟩, .int .i64 r.2]) ∧ Below w.heap.size w w'
/-- What a head's bits say of a number. -/
structure Bits (short : Bool) (B E M K : Int) : Prop where
  k : bits .or .u32 (bits .or .u32 B E) M = K
  x : ∀ N : Nat, N < 256 ^ Mph.size short → ∃ x : Int, bits .andNot .u32 (N : Int) K = x ∧ (x != 0) = !decide (Mph.formed short N)
  y : ∀ N : Nat, N < 256 ^ Mph.size short → ∃ x : Int, bits .and .u32 (N : Int) B = x ∧ (x != 0) = decide (128 * Mph.unit short ≤ N)
  z : ∀ N : Nat, N < 256 ^ Mph.size short → ∃ x : Int, bits .and .u32 (N : Int) E = x ∧ (x != 0) = decide (64 * Mph.unit short ≤ N % (128 * Mph.unit short))
  m : ∀ N : Nat, N < 256 ^ Mph.size short → bits .and .u32 (N : Int) M = ((N % Mph.ring short : Nat) : Int)
theorem bits_short : Bits true 32768 16384 4095 53247 where
  k := by decide +kernel
  x N h := by
    have h2 : N < 65536 := h
    refine ⟨_, rfl, ?_⟩
    have e := u32_andNot_nat N 53247 (by omega) (by omega)
    have e2 : N &&& (4294967295 - 53247) = N &&& (16384 - 4096) := by
      have e3 : N = N &&& 65535 := by rw [nat_mask16]; omega
      rw [e3, Nat.and_assoc, Nat.and_assoc]
      congr 1
    rw [e2, nat_midmask 14 12 N (by decide)] at e
    rw [show (53247 : Int) = ((53247 : Nat) : Int) from rfl, e]
    unfold Mph.formed
    rw [Bool.eq_iff_iff, bne_iff_ne]
    simp [Mph.unit, Mph.ring]
    omega
  y N h := by
    have h2 : N < 65536 := h
    refine ⟨_, rfl, ?_⟩
    have e := u32_and_nat N 32768 (by omega) (by omega)
    rw [show (32768 : Nat) = 2 ^ 15 from rfl, nat_bit 15 N] at e
    rw [show (32768 : Int) = ((2 ^ 15 : Nat) : Int) from rfl, e, Bool.eq_iff_iff, bne_iff_ne]
    simp [Mph.unit]
    omega
  z N h := by
    have h2 : N < 65536 := h
    refine ⟨_, rfl, ?_⟩
    have e := u32_and_nat N 16384 (by omega) (by omega)
    rw [show (16384 : Nat) = 2 ^ 14 from rfl, nat_bit 14 N] at e
    rw [show (16384 : Int) = ((2 ^ 14 : Nat) : Int) from rfl, e, Bool.eq_iff_iff, bne_iff_ne]
    simp [Mph.unit]
    omega
  m N h := by
    have h2 : N < 65536 := h
    have e := u32_and_nat N 4095 (by omega) (by omega)
    rw [nat_mask12] at e
    exact e
theorem bits_long : Bits false 2147483648 1073741824 16777215 3238002687 where
  k := by decide +kernel
  x N h := by
    have h2 : N < 4294967296 := h
    refine ⟨_, rfl, ?_⟩
    have e := u32_andNot_nat N 3238002687 (by omega) (by omega)
    have e2 : N &&& (4294967295 - 3238002687) = N &&& (1073741824 - 16777216) := rfl
    rw [e2, nat_midmask 30 24 N (by decide)] at e
    rw [show (3238002687 : Int) = ((3238002687 : Nat) : Int) from rfl, e]
    unfold Mph.formed
    rw [Bool.eq_iff_iff, bne_iff_ne]
    simp [Mph.unit, Mph.ring]
    omega
  y N h := by
    have h2 : N < 4294967296 := h
    refine ⟨_, rfl, ?_⟩
    have e := u32_and_nat N 2147483648 (by omega) (by omega)
    rw [show (2147483648 : Nat) = 2 ^ 31 from rfl, nat_bit 31 N] at e
    rw [show (2147483648 : Int) = ((2 ^ 31 : Nat) : Int) from rfl, e, Bool.eq_iff_iff, bne_iff_ne]
    simp [Mph.unit]
    omega
  z N h := by
    have h2 : N < 4294967296 := h
    refine ⟨_, rfl, ?_⟩
    have e := u32_and_nat N 1073741824 (by omega) (by omega)
    rw [show (1073741824 : Nat) = 2 ^ 30 from rfl, nat_bit 30 N] at e
    rw [show (1073741824 : Int) = ((2 ^ 30 : Nat) : Int) from rfl, e, Bool.eq_iff_iff, bne_iff_ne]
    simp [Mph.unit]
    omega
  m N h := by
    have h2 : N < 4294967296 := h
    have e := u32_and_nat N 16777215 (by omega) (by omega)
    rw [nat_mask24] at e
    exact e
end Go.Proofs.Ytlolnbmdjnnkjaa.D
