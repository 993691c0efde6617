/-
  A block that holds so many cells: a struct in a box.
-/
import Derived.Test.YtaagfmnpeimakaaDoorOwn
namespace Go.Proofs.YtaagfmnpeimakaaDoor
open Go.RowKit
theorem box_add (b j : Nat) : (⟨b, 0, none⟩ : Addr).add j = ⟨b, j, none⟩ := by unfold Addr.add; split <;> simp_all
/-- Block 'B' holds these cells. -/
def Box (B : Nat) (a : World) (cs : List Value) : Prop := ∀ j u, cs[j]? = some u → a.cell? ⟨B, j, none⟩ = some u
theorem Box.new (w : World) (cs : List Value) (t : TypeId) : Box w.heap.size (w.alloc (.cells cs.toArray t)) cs := fun j u h => by
  have := new_cells w cs t j u h
  rwa [box_add] at this
theorem Box.at {B n : Nat} {a : World} {cs : List Value} (h : Box B a cs) (e : B = n) : Box n a cs := e ▸ h
theorem Box.lt {B : Nat} {a : World} {c : Value} {cs : List Value} (h : Box B a (c :: cs)) : B < a.heap.size := block_lt_of_cell (h 0 c rfl)
theorem Box.below {B : Nat} {a b : World} {cs : List Value} (h : Box B a cs) (k : Below a.heap.size a b) : Box B b cs := fun j u hj =>
  (k.cell (block_lt_of_cell (h j u hj))).trans (h j u hj)
theorem Box.alloc {B : Nat} {a : World} {cs : List Value} (h : Box B a cs) (o : Obj) : Box B (a.alloc o) cs := h.below ((Below.refl _ a).alloc (Nat.le_refl _) o)
theorem Box.drew {B : Nat} {a : World} {cs : List Value} (h : Box B a cs) : Box B a.drew cs := h
/-- Four cells of a box, as a region's condition. -/
theorem box4_kept {B : Nat} {w a b : World} {x y z u : Value} (h : a.cell? ⟨B, 0, none⟩ = some x ∧ a.cell? ⟨B, 1, none⟩ = some y ∧ a.cell? ⟨B, 2, none⟩ = some z ∧ a.cell? ⟨B, 3, none⟩ = some u ∧ B < a.heap.size ∧ Below w.heap.size w a) (k : Below a.heap.size a b) :
    b.cell? ⟨B, 0, none⟩ = some x ∧ b.cell? ⟨B, 1, none⟩ = some y ∧ b.cell? ⟨B, 2, none⟩ = some z ∧ b.cell? ⟨B, 3, none⟩ = some u ∧ B < b.heap.size ∧ Below w.heap.size w b := by
  obtain ⟨h1, h2, h3, h4, h5, h6⟩ := h
  exact ⟨(k.cell (p := ⟨B, 0, none⟩) h5).trans h1, (k.cell (p := ⟨B, 1, none⟩) h5).trans h2, (k.cell (p := ⟨B, 2, none⟩) h5).trans h3, (k.cell (p := ⟨B, 3, none⟩) h5).trans h4, Nat.lt_of_lt_of_le h5 k.size, bel2 h6 k⟩
theorem box4_drew {B : Nat} {w a : World} {x y z u : Value} (h : a.cell? ⟨B, 0, none⟩ = some x ∧ a.cell? ⟨B, 1, none⟩ = some y ∧ a.cell? ⟨B, 2, none⟩ = some z ∧ a.cell? ⟨B, 3, none⟩ = some u ∧ B < a.heap.size ∧ Below w.heap.size w a) :
    a.drew.cell? ⟨B, 0, none⟩ = some x ∧ a.drew.cell? ⟨B, 1, none⟩ = some y ∧ a.drew.cell? ⟨B, 2, none⟩ = some z ∧ a.drew.cell? ⟨B, 3, none⟩ = some u ∧ B < a.drew.heap.size ∧ Below w.heap.size w a.drew := ⟨h.1, h.2.1, h.2.2.1, h.2.2.2.1, h.2.2.2.2.1, h.2.2.2.2.2.drew⟩
theorem box4_of {B : Nat} {w a : World} {x y z u : Value} (h : Box B a [x, y, z, u]) (k : Below w.heap.size w a) :
    a.cell? ⟨B, 0, none⟩ = some x ∧ a.cell? ⟨B, 1, none⟩ = some y ∧ a.cell? ⟨B, 2, none⟩ = some z ∧ a.cell? ⟨B, 3, none⟩ = some u ∧ B < a.heap.size ∧ Below w.heap.size w a := ⟨h 0 _ rfl, h 1 _ rfl, h 2 _ rfl, h 3 _ rfl, h.lt, k⟩
end Go.Proofs.YtaagfmnpeimakaaDoor
