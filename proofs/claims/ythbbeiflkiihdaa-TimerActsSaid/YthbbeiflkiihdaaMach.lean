/-
  General: machines behind a pointer: a block that holds a slice of the machine's own; what a call to a machine leaves as it was.
-/
import Derived.Test.YthbbeiflkiihdaaTms
import Derived.Test.YthbbeiflkiihdaaTmr
namespace Go.Proofs.Ythbbeiflkiihdaa
open Go.RowKit
/-- What a call to the machine in block 'B', whose slice was 'v' and is 'v'', leaves as it was: all but these two blocks; a new slice lies in the old block or in a new one. -/
structure Mv (B : Nat) (v v' : Value) (w w' : World) : Prop where
  os : w'.os = w.os
  tape : w'.tape = w.tape
  output : w'.output = w.output
  size : w.heap.size ≤ w'.heap.size
  kept : ∀ k, k < w.heap.size → k ≠ B → v.ownBlock ≠ some k → w'.heap[k]? = w.heap[k]?
  row : ∀ k, v'.ownBlock = some k → v.ownBlock = some k ∨ w.heap.size ≤ k
theorem Mv.refl (B : Nat) (v : Value) (w : World) : Mv B v v w w := ⟨rfl, rfl, rfl, Nat.le_refl _, fun _ _ _ _ => rfl, fun _ h => .inl h⟩
theorem Mv.trans {B : Nat} {v v' v'' : Value} {a b c : World} (h : Mv B v v' a b) (k : Mv B v' v'' b c) : Mv B v v'' a c := by
  refine ⟨k.os.trans h.os, k.tape.trans h.tape, k.output.trans h.output, Nat.le_trans h.size k.size, fun i hi hB hv => ?_, fun i hi => ?_⟩
  · have e : v'.ownBlock ≠ some i := fun e => by
      rcases h.row i e with e2 | e2
      · exact hv e2
      · omega
    exact (k.kept i (Nat.lt_of_lt_of_le hi h.size) hB e).trans (h.kept i hi hB hv)
  · rcases k.row i hi with e | e
    · exact h.row i e
    · exact .inr (Nat.le_trans h.size e)
theorem Mv.of_below {w w' : World} (h : Below w.heap.size w w') (B : Nat) (v : Value) : Mv B v v w w' := ⟨h.os, h.tape, h.output, h.size, fun k hk _ _ => h.block k hk, fun _ e => .inl e⟩
theorem Mv.of_grown {w w' : World} {v : Value} (h : w.grownBy w' v.ownBlock) (B : Nat) : Mv B v v w w' := ⟨h.os, h.tape, h.output, h.size, fun k hk _ hv => h.block k hk (fun e => hv e.symm), fun _ e => .inl e⟩
/-- More is pushed behind the machine's slice. -/
theorem Mv.of_push {w w' : World} {v v' : Value} (h : w.grownBy w' v.ownBlock) (k : ∀ k, v'.ownBlock = some k → v.ownBlock = some k ∨ w.heap.size ≤ k) (B : Nat) : Mv B v v' w w' := ⟨h.os, h.tape, h.output, h.size, fun k hk _ hv => h.block k hk (fun e => hv e.symm), k⟩
/-- The slice in the machine's block is written anew. -/
theorem Mv.of_set (w : World) (B o : Nat) (u : Value) (v : Value) : Mv B v v w (w.setCell ⟨B, o, none⟩ u) :=
  ⟨rfl, rfl, rfl, by simp, fun k _ hB _ => Below.heap_setCell w ⟨B, o, none⟩ u k hB, fun _ e => .inl e⟩
/-- It is looked at as another slice in the same block. -/
theorem Mv.as {B : Nat} {v v' v'' : Value} {w w' : World} (h : Mv B v v' w w') (e : ∀ k, v''.ownBlock = some k → v'.ownBlock = some k) : Mv B v v'' w w' := ⟨h.os, h.tape, h.output, h.size, h.kept, fun k hk => h.row k (e k hk)⟩
/-- Seen from a world ahead of which the machine had not been made. -/
theorem Mv.below {B n : Nat} {v v' : Value} {w0 w w' : World} (h : Mv B v v' w w') (hb : Below n w0 w) (hn : n ≤ w.heap.size) (hB : n ≤ B) (hv : ∀ k, v.ownBlock = some k → n ≤ k) : Below n w0 w' :=
  hb.trans ⟨h.os, h.tape, h.output, h.size, fun k hk => h.kept k (by omega) (by omega) (fun e => by have := hv k e; omega)⟩
theorem Mv.own {B n : Nat} {v v' : Value} {w w' : World} (h : Mv B v v' w w') (hn : n ≤ w.heap.size) (hv : ∀ k, v.ownBlock = some k → n ≤ k) : ∀ k, v'.ownBlock = some k → n ≤ k := fun k hk => by
  rcases h.row k hk with e | e
  · exact hv k e
  · omega
/-- Two machines share no block. -/
structure Apart (B : Nat) (v : Value) (B2 : Nat) (v2 : Value) : Prop where
  ne : B ≠ B2
  left : v.ownBlock ≠ some B2
  right : v2.ownBlock ≠ some B
  rows : ∀ k, v.ownBlock = some k → v2.ownBlock ≠ some k
theorem Apart.symm {B B2 : Nat} {v v2 : Value} (h : Apart B v B2 v2) : Apart B2 v2 B v := ⟨h.ne.symm, h.right, h.left, fun k e e2 => h.rows k e2 e⟩
theorem Apart.move {B B2 : Nat} {v v' v2 : Value} {w w' : World} (h : Apart B v B2 v2) (k : Mv B v v' w w') (h2 : B2 < w.heap.size) (h3 : ∀ k, v2.ownBlock = some k → k < w.heap.size) : Apart B v' B2 v2 := by
  refine ⟨h.ne, fun e => ?_, h.right, fun i e e2 => ?_⟩
  · rcases k.row _ e with e | e
    · exact h.left e
    · omega
  · rcases k.row _ e with e | e
    · exact h.rows i e e2
    · have := h3 i e2; omega
/-- The program's machine: block 'B' holds the slice 'v', which holds the timers 'A'. -/
structure Pl (B : Nat) (v : Value) (w : World) (A : List Tim.T) : Prop where
  box : Blk B w [v]
  arr : RowT (B + 1) w v A
/-- The document's own. -/
structure Rf (B : Nat) (v : Value) (w : World) (S : List Tim.T) : Prop where
  box : Blk B w [v]
  arr : RowX (B + 1) w v S
theorem RowT.setBox {B : Nat} {v : Value} {w : World} {A : List Tim.T} (h : RowT (B + 1) w v A) (o : Nat) (u : Value) : RowT (B + 1) (w.setCell ⟨B, o, none⟩ u) v A :=
  h.same fun k hk => Below.heap_setCell w ⟨B, o, none⟩ u k (by have := (h.lt k hk).1; show k ≠ B; omega)
theorem RowX.setBox {B : Nat} {v : Value} {w : World} {A : List Tim.T} (h : RowX (B + 1) w v A) (o : Nat) (u : Value) : RowX (B + 1) (w.setCell ⟨B, o, none⟩ u) v A :=
  h.same fun k hk => Below.heap_setCell w ⟨B, o, none⟩ u k (by have := (h.lt k hk).1; show k ≠ B; omega)
theorem Blk.same {B : Nat} {w w' : World} {cs : List Value} (h : Blk B w cs) (e : w'.heap[B]? = w.heap[B]?) : Blk B w' cs :=
  ⟨fun j u hj => (World.cell?_of_block (a := ⟨B, j, none⟩) e).trans (h.1 j u hj), fun o => (World.frozen?_of_block (a := ⟨B, o, none⟩) e).trans (h.2 o)⟩
theorem Pl.lt {B : Nat} {v : Value} {w : World} {A : List Tim.T} (h : Pl B v w A) : B < w.heap.size := h.box.lt
theorem Rf.lt {B : Nat} {v : Value} {w : World} {A : List Tim.T} (h : Rf B v w A) : B < w.heap.size := h.box.lt
theorem Pl.below {B : Nat} {v : Value} {w w' : World} {A : List Tim.T} (h : Pl B v w A) (hb : Below w.heap.size w w') : Pl B v w' A := ⟨h.box.below hb, h.arr.below hb⟩
theorem Rf.below {B : Nat} {v : Value} {w w' : World} {A : List Tim.T} (h : Rf B v w A) (hb : Below w.heap.size w w') : Rf B v w' A := ⟨h.box.below hb, h.arr.below hb⟩
theorem Pl.drew {B : Nat} {v : Value} {w : World} {A : List Tim.T} (h : Pl B v w A) : Pl B v w.drew A := ⟨h.box, h.arr⟩
theorem Pl.other {B B2 : Nat} {v v' v2 : Value} {w w' : World} {A : List Tim.T} (h : Pl B2 v2 w A) (k : Mv B v v' w w') (a : Apart B v B2 v2) : Pl B2 v2 w' A :=
  ⟨h.box.same (k.kept B2 h.lt a.ne.symm a.left), h.arr.same fun i e => k.kept i (h.arr.lt i e).2 (fun e2 => a.right (e2 ▸ e)) (fun e2 => a.rows i e2 e)⟩
theorem Rf.other {B B2 : Nat} {v v' v2 : Value} {w w' : World} {A : List Tim.T} (h : Rf B2 v2 w A) (k : Mv B v v' w w') (a : Apart B v B2 v2) : Rf B2 v2 w' A :=
  ⟨h.box.same (k.kept B2 h.lt a.ne.symm a.left), h.arr.same fun i e => k.kept i (h.arr.lt i e).2 (fun e2 => a.right (e2 ▸ e)) (fun e2 => a.rows i e2 e)⟩
theorem Pl.form {B : Nat} {v : Value} {w : World} {A : List Tim.T} (h : Pl B v w A) : ∃ p cap, v = .slice p A.length cap := h.arr.form
theorem Rf.form {B : Nat} {v : Value} {w : World} {A : List Tim.T} (h : Rf B v w A) : ∃ p cap, v = .slice p A.length cap := h.arr.form
end Go.Proofs.Ythbbeiflkiihdaa
