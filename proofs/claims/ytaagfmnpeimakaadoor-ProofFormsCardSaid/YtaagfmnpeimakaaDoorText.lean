/-
  General: texts in parts, texts one behind the other, bytes just laid as a text; a box's first cells as a region's condition.
-/
import Derived.Test.YtaagfmnpeimakaaDoorBox
import Derived.Laws.Concat
import Derived.Laws.AppendOwn
namespace Go.Proofs.YtaagfmnpeimakaaDoor
open Go.RowKit
theorem cut_list (l : List UInt8) (a b : Nat) : (ByteArray.mk l.toArray).extract a b = ⟨((l.take b).drop a).toArray⟩ := by
  apply ByteArray.ext; apply Array.toList_inj.1
  simp [ByteArray.data_extract, List.extract, List.drop_take]
theorem tail_list (l : List UInt8) (a : Nat) : (ByteArray.mk l.toArray).extract a (ByteArray.mk l.toArray).size = ⟨(l.drop a).toArray⟩ := by
  rw [sz, cut_list l a, List.take_length]
/-- One text behind the other. -/
abbrev Sums (a b c : List UInt8) : Prop := ∀ W : World, (Op.stringOp .add { data := a.toArray } { data := b.toArray }).run Tryd.prog W = .ok (.string { data := c.toArray }) W
theorem sums (a b : List UInt8) (h : a.length + b.length ≤ 9223372036854775807) : Sums a b (a ++ b) := fun W => by
  rw [run_string_add_sum W _ _ (by simp [ByteArray.size]; omega), ByteArray.mk_append_mk]
/-- Bytes just laid in a block, as a text, behind a draw. -/
theorem conv_drew (w : World) (l : List UInt8) (cells : Array Value) (h : cells = (Lib.byteCells l).toArray) :
    (convert 58 9 (.slice (some ⟨w.heap.size, 0, none⟩) l.length l.length)).run Tryd.prog (w.alloc (.cells cells 5)).drew = .ok (.string ⟨l.toArray⟩) (w.alloc (.cells cells 5)).drew := by
  subst h
  refine run_convert_bytes_back _ 58 9 5 _ _ l Tryd.underlying58 Tryd.underlying5 Tryd.underlying9 ?_
  intro j hj
  exact new_cells w _ _ _ _ (by simp [Lib.byteCells, hj])
theorem box2_kept {B : Nat} {w a b : World} {x y : Value} (h : a.cell? ⟨B, 0, none⟩ = some x ∧ a.cell? ⟨B, 1, none⟩ = some y ∧ B < a.heap.size ∧ Below w.heap.size w a) (k : Below a.heap.size a b) :
    b.cell? ⟨B, 0, none⟩ = some x ∧ b.cell? ⟨B, 1, none⟩ = some y ∧ B < b.heap.size ∧ Below w.heap.size w b := by
  obtain ⟨h1, h2, h3, h4⟩ := h
  exact ⟨(k.cell (p := ⟨B, 0, none⟩) h3).trans h1, (k.cell (p := ⟨B, 1, none⟩) h3).trans h2, Nat.lt_of_lt_of_le h3 k.size, bel2 h4 k⟩
theorem box2_drew {B : Nat} {w a : World} {x y : Value} (h : a.cell? ⟨B, 0, none⟩ = some x ∧ a.cell? ⟨B, 1, none⟩ = some y ∧ B < a.heap.size ∧ Below w.heap.size w a) :
    a.drew.cell? ⟨B, 0, none⟩ = some x ∧ a.drew.cell? ⟨B, 1, none⟩ = some y ∧ B < a.drew.heap.size ∧ Below w.heap.size w a.drew := ⟨h.1, h.2.1, h.2.2.1, h.2.2.2.drew⟩
theorem box2_alloc {B : Nat} {w a : World} {x y : Value} (h : a.cell? ⟨B, 0, none⟩ = some x ∧ a.cell? ⟨B, 1, none⟩ = some y ∧ B < a.heap.size ∧ Below w.heap.size w a) (o : Obj) :
    (a.alloc o).cell? ⟨B, 0, none⟩ = some x ∧ (a.alloc o).cell? ⟨B, 1, none⟩ = some y ∧ B < (a.alloc o).heap.size ∧ Below w.heap.size w (a.alloc o) := box2_kept h ((Below.refl _ a).alloc (Nat.le_refl _) o)
/-- Two bytes, wherever they lie, as a string. -/
theorem conv_two (W : World) (B : Nat) (p q : UInt8) (x y : Int) (hx : (p.toNat : Int) = x) (hy : (q.toNat : Int) = y)
    (h0 : W.cell? ⟨B, 0, none⟩ = some (.int .u8 x)) (h1 : W.cell? ⟨B, 1, none⟩ = some (.int .u8 y)) :
    (convert 58 9 (.slice (some ⟨B, 0, none⟩) 2 2)).run Tryd.prog W = .ok (.string { data := [p, q].toArray }) W := by
  refine run_convert_bytes_back W 58 9 5 ⟨B, 0, none⟩ 2 [p, q] Tryd.underlying58 Tryd.underlying5 Tryd.underlying9 ?_
  intro j hj
  rw [box_add]
  match j, hj with
  | 0, _ => rw [h0, ← hx]; rfl
  | 1, _ => rw [h1, ← hy]; rfl
theorem box2_of {B : Nat} {w a : World} {x y : Value} {r : List Value} (h : Box B a (x :: y :: r)) (k : Below w.heap.size w a) :
    a.cell? ⟨B, 0, none⟩ = some x ∧ a.cell? ⟨B, 1, none⟩ = some y ∧ B < a.heap.size ∧ Below w.heap.size w a := ⟨h 0 _ rfl, h 1 _ rfl, h.lt, k⟩
theorem grown_cell (w : World) (a : Addr) (u : Value) : w.grownBy (w.setCell a u) (some a.block) :=
  ⟨rfl, rfl, rfl, by simp, fun k _ hk => Below.heap_setCell w a u k (fun e => hk (by rw [e]))⟩
theorem grown_trans {a b c : World} {r : Option Nat} (h : a.grownBy b r) (k : b.grownBy c r) : a.grownBy c r :=
  ⟨k.os.trans h.os, k.tape.trans h.tape, k.output.trans h.output, Nat.le_trans h.size k.size, fun i hi hr => (k.block i (Nat.lt_of_lt_of_le hi h.size) hr).trans (h.block i hi hr)⟩
theorem grown_below {a b c : World} {r : Option Nat} (h : a.grownBy b r) (k : Below b.heap.size b c) : a.grownBy c r := grown_trans h ⟨k.os, k.tape, k.output, k.size, fun i hi _ => k.block i hi⟩
theorem below_grown {a b : World} (h : Below a.heap.size a b) (r : Option Nat) : a.grownBy b r := grown_below ⟨rfl, rfl, rfl, Nat.le_refl _, fun _ _ _ => rfl⟩ h
theorem grown_set {a b : World} {B : Nat} (h : a.grownBy b (some B)) (o : Nat) (u : Value) : a.grownBy (b.setCell ⟨B, o, none⟩ u) (some B) := grown_trans h (grown_cell b ⟨B, o, none⟩ u)
theorem conv_new_at (w : World) (B : Nat) (hB : B = w.heap.size) (l : List UInt8) (cells : Array Value) (h : cells = (Lib.byteCells l).toArray) :
    (convert 58 9 (.slice (some ⟨B, 0, none⟩) l.length l.length)).run Tryd.prog (w.alloc (.cells cells 5)) = .ok (.string ⟨l.toArray⟩) (w.alloc (.cells cells 5)) := hB ▸ conv_new w l cells h
theorem new_frozen (w : World) (cells : Array Value) (t : TypeId) (B o : Nat) (hB : B = w.heap.size) : (w.alloc (.cells cells t)).frozen? ⟨B, o, none⟩ = false := by
  subst hB
  simp
theorem alloc_frozen (w : World) (ob : Obj) (B o : Nat) (h : B < w.heap.size) : (w.alloc ob).frozen? ⟨B, o, none⟩ = w.frozen? ⟨B, o, none⟩ := ((Below.refl _ w).alloc (Nat.le_refl _) ob).frozen (p := ⟨B, o, none⟩) h
end Go.Proofs.YtaagfmnpeimakaaDoor
