/-
  Two equal messages held against each other: at the operation.
-/
import Derived.Test.YtaagfmnpeimakaaDoorOwn
import Derived.Laws.StructEq
namespace Go.Proofs.YtaagfmnpeimakaaDoor
open Go.RowKit
theorem in_chaps (c i : Int) (d e : List UInt8) (W : World) : (Op.equalIn 10000 33 (.agg #[.int .i64 c, .int .i64 i, .string ⟨d.toArray⟩, .string ⟨e.toArray⟩]) (.agg #[.int .i64 c, .int .i64 i, .string ⟨d.toArray⟩, .string ⟨e.toArray⟩])).run Tryd.prog W = .ok true W := by
  have h1 : Tryd.prog.underlying 33 = some (.struct (Tryd.prog.fieldsOf 33)) := by kernel_rfl
  have h2 : Tryd.prog.stoodInHeld 33 = false := by kernel_rfl
  rw [show (10000 : Nat) = 9998 + 1 + 1 from rfl, run_equalIn_agg W _ _ _ _ h1 h2]
  simp [go_sem, Tryd.underlying33, Tryd.underlying3, Tryd.underlying9]
/-- What a walk wants of a comparison: the comparison, what it is made of. -/
def EqC (x y : Value) (r : Bool) : Prop := (∀ W : World, (Op.equalIn 10000 33 x y).run Tryd.prog W = .ok r W) ∧ (∀ W : World, (binOp .neq 33 x y).run Tryd.prog W = .ok (.bool (!r)) W) ∧
  (∀ W : World, (binOp .eql 33 x y).run Tryd.prog W = .ok (.bool r) W)
theorem eqC_yes (c i : Int) (d e : List UInt8) : EqC (.agg #[.int .i64 c, .int .i64 i, .string ⟨d.toArray⟩, .string ⟨e.toArray⟩]) (.agg #[.int .i64 c, .int .i64 i, .string ⟨d.toArray⟩, .string ⟨e.toArray⟩]) true := by
  refine ⟨fun W => in_chaps c i d e W, fun W => ?_, fun W => ?_⟩
  · rw [run_neq_struct, in_chaps c i d e W]; rfl
  · rw [run_eql_struct, in_chaps c i d e W]; rfl
theorem guardC : Tryd.prog.eqGuardType Tryd.prog.depth 33 = false := by kernel_rfl
end Go.Proofs.YtaagfmnpeimakaaDoor
