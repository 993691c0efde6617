/-
  General: a number by modulus as a natural number; what an argument's number can be at most.
-/
import Derived.Test.YtaagfmnpeimakaaDoorOwn
namespace Go.Proofs.YtaagfmnpeimakaaDoor
open Go.RowKit
theorem wf_i64 {z : Int} (h : (Lit.int .i64 z).wf = true) : -9223372036854775808 ≤ z ∧ z ≤ 9223372036854775807 := by
  simp [Lit.wf, IntKind.min, IntKind.max, IntKind.signed, IntKind.bits] at h
  omega
theorem by_many (z : Int) (n : Int) (h0 : 0 < n) (h1 : n ≤ 9223372036854775807) : ∃ x : Nat, wrap64 ((IntKind.u64.wrap z).tmod n) = (x : Int) ∧ (x : Int) < n := by
  have hz : 0 ≤ IntKind.u64.wrap z := by
    show 0 ≤ z % 18446744073709551616
    omega
  generalize IntKind.u64.wrap z = y at *
  have hm : y.tmod n = y % n := Int.tmod_eq_emod_of_nonneg hz
  have a1 := Int.emod_nonneg y (show n ≠ 0 by omega)
  have a2 := Int.emod_lt_of_pos y h0
  refine ⟨(y % n).toNat, ?_, by omega⟩
  rw [hm, IntWalk.wrap64_in _ ⟨by omega, by omega⟩]
  omega
end Go.Proofs.YtaagfmnpeimakaaDoor
