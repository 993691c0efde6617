/-
  Two options held against each other: at the operation.
-/
import Derived.Test.YtiadndcodjpijaaOpts
import Derived.Laws.StructEq
namespace Go.Proofs.Ytiadndcodjpijaa
open Go.RowKit
theorem in_opts (z z2 : Int) (d e : List UInt8) (W : World) : (Op.equalIn 10000 36 (.agg #[.int .i64 z, .string ⟨d.toArray⟩]) (.agg #[.int .i64 z2, .string ⟨e.toArray⟩])).run Try.prog W = .ok (z == z2 && d == e) W := by
  have h1 : Try.prog.underlying 36 = some (.struct (Try.prog.fieldsOf 36)) := by kernel_rfl
  have h2 : Try.prog.stoodInHeld 36 = false := by kernel_rfl
  rw [show (10000 : Nat) = 9998 + 1 + 1 from rfl, run_equalIn_agg W _ _ _ _ h1 h2]
  simp [go_sem, Try.underlying36, Try.underlying3, Try.underlying9]
  by_cases h : z = z2 <;> by_cases h2 : d = e <;> simp [h, h2]
/-- What a walk wants of a comparison: the guard, the comparison, what it is made of. -/
def EqO (x y : Value) (r : Bool) : Prop := (∀ W : World, (Op.equalIn 10000 36 x y).run Try.prog W = .ok r W) ∧ (∀ W : World, (binOp .neq 36 x y).run Try.prog W = .ok (.bool (!r)) W) ∧
  (∀ W : World, (binOp .eql 36 x y).run Try.prog W = .ok (.bool r) W)
theorem eqO_any (z z2 : Int) (d e : List UInt8) : EqO (.agg #[.int .i64 z, .string ⟨d.toArray⟩]) (.agg #[.int .i64 z2, .string ⟨e.toArray⟩]) (z == z2 && d == e) := by
  refine ⟨fun W => in_opts z z2 d e W, fun W => ?_, fun W => ?_⟩
  · rw [run_neq_struct, in_opts z z2 d e W]; rfl
  · rw [run_eql_struct, in_opts z z2 d e W]; rfl
theorem eqO_yes (z : Int) (d : List UInt8) : EqO (.agg #[.int .i64 z, .string ⟨d.toArray⟩]) (.agg #[.int .i64 z, .string ⟨d.toArray⟩]) true := by
  have h := eqO_any z z d d
  simpa using h
theorem eqO_no (z z2 : Int) (d e : List UInt8) (h : (z, d) ≠ (z2, e)) : EqO (.agg #[.int .i64 z, .string ⟨d.toArray⟩]) (.agg #[.int .i64 z2, .string ⟨e.toArray⟩]) false := by
  have h2 := eqO_any z z2 d e
  have : (z == z2 && d == e) = false := by
    cases hq : (z == z2 && d == e) with
    | false => rfl
    | true =>
      simp only [Bool.and_eq_true, beq_iff_eq] at hq
      exact absurd (by rw [hq.1, hq.2]) h
  rwa [this] at h2
theorem guardO : Try.prog.eqGuardType Try.prog.depth 36 = false := by kernel_rfl
end Go.Proofs.Ytiadndcodjpijaa
