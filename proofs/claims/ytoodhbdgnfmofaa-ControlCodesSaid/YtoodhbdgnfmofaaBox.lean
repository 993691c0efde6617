/-
  A block that holds so many cells: a struct in a box.
-/
import Derived.Test.YtoodhbdgnfmofaaOwn
namespace Go.Proofs.Ytoodhbdgnfmofaa
open Go.RowKit
theorem box_add (b j : Nat) : (⟨b, 0, none⟩ : Addr).add j = ⟨b, j, none⟩ := by unfold Addr.add; split <;> simp_all
/-- Block 'B' holds these cells. -/
def Box (B : Nat) (a : World) (cs : List Value) : Prop := ∀ j u, cs[j]? = some u → a.cell? ⟨B, j, none⟩ = some u
theorem Box.new (w : World) (cs : List Value) (t : TypeId) : Box w.heap.size (w.alloc (.cells cs.toArray t)) cs := fun j u h => by
  have := new_cells w cs t j u h
  rwa [box_add] at this
theorem Box.at {B n : Nat} {a : World} {cs : List Value} (h : Box B a cs) (e : B = n) : Box n a cs := e ▸ h
theorem Box.lt {B : Nat} {a : World} {c : Value} {cs : List Value} (h : Box B a (c :: cs)) : B < a.heap.size := block_lt_of_cell (h 0 c rfl)
theorem Box.below {B : Nat} {a b : World} {cs : List Value} (h : Box B a cs) (k : Below a.heap.size a b) : Box B b cs := fun j u hj =>
  (k.cell (block_lt_of_cell (h j u hj))).trans (h j u hj)
theorem Box.alloc {B : Nat} {a : World} {cs : List Value} (h : Box B a cs) (o : Obj) : Box B (a.alloc o) cs := h.below ((Below.refl _ a).alloc (Nat.le_refl _) o)
theorem Box.drew {B : Nat} {a : World} {cs : List Value} (h : Box B a cs) : Box B a.drew cs := h
end Go.Proofs.Ytoodhbdgnfmofaa
