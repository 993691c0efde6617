/-
  Two links held against each other: at the operation.
-/
import Derived.Test.YtiadndcodjpijaaPl1
import Derived.Laws.StructEq
namespace Go.Proofs.Ytiadndcodjpijaa.Pl
open Go.RowKit
theorem in_links (l m : Pol.Lk) (W : World) : (Op.equalIn 10000 23 (lv l) (lv m)).run Try.prog W = .ok (decide (l = m)) W := by
  have h1 : Try.prog.underlying 23 = some (.struct (Try.prog.fieldsOf 23)) := by kernel_rfl
  have h2 : Try.prog.stoodInHeld 23 = false := by kernel_rfl
  obtain ⟨a, b, c, s, d, n⟩ := l
  obtain ⟨a2, b2, c2, s2, d2, n2⟩ := m
  unfold lv
  rw [show (10000 : Nat) = 9998 + 1 + 1 from rfl, run_equalIn_agg W _ _ _ _ h1 h2]
  simp [go_sem, Try.underlying23, Try.underlying3, Try.underlying4, Try.underlying9]
  by_cases e1 : a = a2 <;> by_cases e2 : b = b2 <;> by_cases e3 : c = c2 <;> by_cases e4 : s = s2 <;> by_cases e5 : d = d2 <;> by_cases e6 : n = n2 <;> simp [e1, e2, e3, e4, e5, e6]
/-- What a walk wants of a comparison: the comparison, what it is made of. -/
def EqL (x y : Value) (r : Bool) : Prop := (∀ W : World, (Op.equalIn 10000 23 x y).run Try.prog W = .ok r W) ∧ (∀ W : World, (binOp .neq 23 x y).run Try.prog W = .ok (.bool (!r)) W) ∧
  (∀ W : World, (binOp .eql 23 x y).run Try.prog W = .ok (.bool r) W)
theorem eqL_any (l m : Pol.Lk) : EqL (lv l) (lv m) (decide (l = m)) := by
  refine ⟨fun W => in_links l m W, fun W => ?_, fun W => ?_⟩
  · have e := in_links l m W
    unfold lv at e ⊢
    rw [run_neq_struct, e]; rfl
  · have e := in_links l m W
    unfold lv at e ⊢
    rw [run_eql_struct, e]; rfl
theorem guardL : Try.prog.eqGuardType Try.prog.depth 23 = false := by kernel_rfl
end Go.Proofs.Ytiadndcodjpijaa.Pl
