/-
  Two equal messages held against each other: at the operation.
-/
import Derived.Test.YtkdlhonbpciceaaOwn
import Derived.Laws.StructEq
namespace Go.Proofs.Ytkdlhonbpciceaa
open Go.RowKit
theorem in_chaps (c i : Int) (d e : List UInt8) (W : World) : (Op.equalIn 10000 23 (.agg #[.int .i64 c, .int .i64 i, .string ⟨d.toArray⟩, .string ⟨e.toArray⟩]) (.agg #[.int .i64 c, .int .i64 i, .string ⟨d.toArray⟩, .string ⟨e.toArray⟩])).run Try.prog W = .ok true W := by
  have h1 : Try.prog.underlying 23 = some (.struct (Try.prog.fieldsOf 23)) := by kernel_rfl
  have h2 : Try.prog.stoodInHeld 23 = false := by kernel_rfl
  rw [show (10000 : Nat) = 9998 + 1 + 1 from rfl, run_equalIn_agg W _ _ _ _ h1 h2]
  simp [go_sem, Try.underlying23, Try.underlying3, Try.underlying9]
/-- What a walk wants of a comparison: the comparison, what it is made of. -/
def EqC (x y : Value) (r : Bool) : Prop := (∀ W : World, (Op.equalIn 10000 23 x y).run Try.prog W = .ok r W) ∧ (∀ W : World, (binOp .neq 23 x y).run Try.prog W = .ok (.bool (!r)) W) ∧
  (∀ W : World, (binOp .eql 23 x y).run Try.prog W = .ok (.bool r) W)
theorem eqC_yes (c i : Int) (d e : List UInt8) : EqC (.agg #[.int .i64 c, .int .i64 i, .string ⟨d.toArray⟩, .string ⟨e.toArray⟩]) (.agg #[.int .i64 c, .int .i64 i, .string ⟨d.toArray⟩, .string ⟨e.toArray⟩]) true := by
  refine ⟨fun W => in_chaps c i d e W, fun W => ?_, fun W => ?_⟩
  · rw [run_neq_struct, in_chaps c i d e W]; rfl
  · rw [run_eql_struct, in_chaps c i d e W]; rfl
theorem guardC : Try.prog.eqGuardType Try.prog.depth 23 = false := by kernel_rfl
end Go.Proofs.Ytkdlhonbpciceaa
