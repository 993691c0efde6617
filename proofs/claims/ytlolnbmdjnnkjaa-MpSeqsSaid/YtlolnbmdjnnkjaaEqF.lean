/-
  Two fragments held against each other: at the operation.
-/
import Derived.Test.YtlolnbmdjnnkjaaOwn
import Derived.Laws.StructEq
namespace Go.Proofs.Ytlolnbmdjnnkjaa
open Go.RowKit
theorem in_frags (b e : Bool) (q : Int) (d : List UInt8) (W : World) : (Op.equalIn 10000 23 (.agg #[.bool b, .bool e, .int .i64 q, .string ⟨d.toArray⟩]) (.agg #[.bool b, .bool e, .int .i64 q, .string ⟨d.toArray⟩])).run Try.prog W = .ok true W := by
  have h1 : Try.prog.underlying 23 = some (.struct (Try.prog.fieldsOf 23)) := by kernel_rfl
  have h2 : Try.prog.stoodInHeld 23 = false := by kernel_rfl
  rw [show (10000 : Nat) = 9998 + 1 + 1 from rfl, run_equalIn_agg W _ _ _ _ h1 h2]
  simp [go_sem, Try.underlying23, Try.underlying4, Try.underlying3, Try.underlying9]
/-- What a walk wants of a comparison: the comparison, what it is made of. -/
def EqF (x y : Value) (r : Bool) : Prop := (∀ W : World, (Op.equalIn 10000 23 x y).run Try.prog W = .ok r W) ∧ (∀ W : World, (binOp .neq 23 x y).run Try.prog W = .ok (.bool (!r)) W) ∧
  (∀ W : World, (binOp .eql 23 x y).run Try.prog W = .ok (.bool r) W)
theorem eqF_yes (b e : Bool) (q : Int) (d : List UInt8) : EqF (.agg #[.bool b, .bool e, .int .i64 q, .string ⟨d.toArray⟩]) (.agg #[.bool b, .bool e, .int .i64 q, .string ⟨d.toArray⟩]) true := by
  refine ⟨fun W => in_frags b e q d W, fun W => ?_, fun W => ?_⟩
  · rw [run_neq_struct, in_frags b e q d W]; rfl
  · rw [run_eql_struct, in_frags b e q d W]; rfl
theorem guardF : Try.prog.eqGuardType Try.prog.depth 23 = false := by kernel_rfl
end Go.Proofs.Ytlolnbmdjnnkjaa
