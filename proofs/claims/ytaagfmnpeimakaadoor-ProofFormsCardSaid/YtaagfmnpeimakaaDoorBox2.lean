/-
  A box while other blocks are written.
-/
import Derived.Test.YtaagfmnpeimakaaDoorBox
import Derived.Laws.AppendOwn
namespace Go.Proofs.YtaagfmnpeimakaaDoor
open Go.RowKit
theorem Box.setCell {B : Nat} {a : World} {cs : List Value} (h : Box B a cs) {p : Addr} (hne : p.block ≠ B) (u : Value) : Box B (a.setCell p u) cs := fun j v hj =>
  (World.cell?_of_block (a := ⟨B, j, none⟩) (Below.heap_setCell a p u B (fun e => hne e.symm))).trans (h j v hj)
theorem Box.grown {B : Nat} {a b : World} {cs : List Value} {row : Option Nat} (h : Box B a cs) (hg : a.grownBy b row) (hne : some B ≠ row) : Box B b cs := fun j v hj =>
  (World.cell?_of_block (a := ⟨B, j, none⟩) (hg.block B (block_lt_of_cell (h j v hj)) hne)).trans (h j v hj)
theorem cell_below {a b : World} {p : Addr} {u : Value} (h : a.cell? p = some u) (k : Below a.heap.size a b) : b.cell? p = some u := (k.cell (block_lt_of_cell h)).trans h
end Go.Proofs.YtaagfmnpeimakaaDoor
