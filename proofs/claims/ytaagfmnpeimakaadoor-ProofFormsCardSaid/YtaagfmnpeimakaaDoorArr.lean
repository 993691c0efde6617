/-
  General: a block that holds exactly these cells; a whole array out of it, into it, an element of an array by value, as a walk's steps.
-/
import Derived.Test.YtaagfmnpeimakaaDoorOwn
import Derived.Laws.Rows
import Derived.Laws.Tables
import Derived.Laws.AppendOwn
import Derived.Laws.OwnMore
namespace Go.Proofs.YtaagfmnpeimakaaDoor
open Go.RowKit
/-- Block 'B' holds exactly these cells. -/
def Arr (B : Nat) (w : World) (cs : List Value) : Prop := ∃ t, w.heap[B]? = some (.cells cs.toArray t (0, 0))
theorem Arr.lt {B : Nat} {w : World} {cs : List Value} (h : Arr B w cs) : B < w.heap.size := by
  obtain ⟨t, h⟩ := h
  exact (Array.getElem?_eq_some_iff.1 h).1
theorem Arr.below {B : Nat} {w w' : World} {cs : List Value} (h : Arr B w cs) (k : Below w.heap.size w w') : Arr B w' cs := by
  have hl := h.lt
  obtain ⟨t, h⟩ := h
  exact ⟨t, (k.block B hl).trans h⟩
theorem Arr.new (w : World) (cs : List Value) (t : TypeId) : Arr w.heap.size (w.alloc (.cells cs.toArray t)) cs := ⟨t, heap_alloc_new w _⟩
theorem Arr.at {B n : Nat} {a : World} {cs : List Value} (h : Arr B a cs) (e : B = n) : Arr n a cs := e ▸ h
theorem Arr.cell {B : Nat} {w : World} {cs : List Value} (h : Arr B w cs) (j : Nat) (u : Value) (hj : cs[j]? = some u) : w.cell? ⟨B, j, none⟩ = some u := by
  obtain ⟨t, h⟩ := h
  rw [cell_of_row w B j _ t (0, 0) h]
  simpa using hj
theorem Arr.frozen {B : Nat} {w : World} {cs : List Value} (h : Arr B w cs) (o : Nat) : w.frozen? ⟨B, o, none⟩ = false := by
  obtain ⟨t, h⟩ := h
  simp [World.frozen?, h]
theorem Arr.load {B : Nat} {w : World} {cs : List Value} (h : Arr B w cs) (t : TypeId) (n : Nat) (e : TypeId) (hu : Tryd.prog.underlying t = some (.array n e)) (hi : (Tryd.prog.info? t).map (·.size) = some cs.length) :
    (loadVar t ⟨B, 0, none⟩).run Tryd.prog w = .ok (.agg cs.toArray) w := by
  obtain ⟨t', h⟩ := h
  exact run_loadVar_row w B t' t cs.toArray (0, 0) _ h hu rfl (by rw [hi]; simp)
theorem Arr.store {B : Nat} {w : World} {cs ds : List Value} (h : Arr B w cs) (t : TypeId) (hi : (Tryd.prog.info? t).map (·.size) = some ds.length) (hl : cs.length = ds.length) (h1 : ∀ v ∈ ds, v.oneCell' = true) :
    ∃ w', (storeVar t ⟨B, 0, none⟩ (.agg ds.toArray)).run Tryd.prog w = .ok () w' ∧ Arr B w' ds ∧ w.grownBy w' (some B) := by
  obtain ⟨t', h⟩ := h
  refine ⟨_, run_storeVar_row w B t' t cs.toArray ds.toArray h (by rw [hi]; simp) (by simpa using hl) (by rw [Array.all_eq_true_iff_forall_mem]; intro v hv; exact h1 v (by simpa using hv)), ⟨t', ?_⟩, ?_⟩
  · exact setRow_heap w B cs.toArray ds.toArray t' (0, 0) h
  · exact ⟨rfl, rfl, rfl, by simp, fun k _ hk => setRow_other w B k _ (fun e => hk (by simp [e]))⟩
theorem Arr.set {B : Nat} {w : World} {cs : List Value} (h : Arr B w cs) (j : Nat) (u : Value) : Arr B (w.setCell ⟨B, j, none⟩ u) (cs.set j u) := by
  obtain ⟨t, h⟩ := h
  refine ⟨t, ?_⟩
  rw [heap_setCell_same w B j cs.toArray t u h, List.setIfInBounds_toArray]
theorem Arr.grown {B : Nat} {w w' : World} {cs : List Value} {r : Option Nat} (h : Arr B w cs) (k : w.grownBy w' r) (hne : some B ≠ r) : Arr B w' cs := by
  have hl := h.lt
  obtain ⟨t, h⟩ := h
  exact ⟨t, (k.block B hl hne).trans h⟩
theorem below_of_grown {b : Nat} {w0 w w' : World} {B : Nat} (h : Below b w0 w) (k : w.grownBy w' (some B)) (hB : b ≤ B) (e : b = w0.heap.size) : Below b w0 w' := by
  subst e
  exact ⟨k.os.trans h.os, k.tape.trans h.tape, k.output.trans h.output, Nat.le_trans h.size k.size, fun i hi => (k.block i (Nat.lt_of_lt_of_le hi h.size) (by simp; omega)).trans (h.block i hi)⟩
section
variable {ops : Array Oper} {rest : List Oper} {o : Oper} {a : Act} {Q : Exit → Act → World → Prop} {w : World}
theorem wpList_load (hgd : o.guard = none) (t : TypeId) (x : Operand) (ho : o.op = .load t x) (p : Addr) (v : Value) (hx : a.eval x = .pointer (some p)) (hl : (loadVar t p).run Tryd.prog w = .ok v w)
    (h : wpList Tryd.prog ops Q rest (a.put o.dst v) w) : wpList Tryd.prog ops Q (o :: rest) a w := by
  refine wpList_plain hgd fun _ hK => ?_
  unfold Oper.wp execOp
  simp only [ho, Instr.loadAt, hx, Instr.sureAddr, Sem.run_bind, Sem.run_pure, Result.andThen_ok, hl]
  exact hK _ _ h
theorem wpList_store (hgd : o.guard = none) (t : TypeId) (x y : Operand) (ho : o.op = .store t x y) (p : Addr) (v : Value) (w' : World) (hx : a.eval x = .pointer (some p)) (hy : a.eval y = v) (hl : (storeVar t p v).run Tryd.prog w = .ok () w')
    (h : wpList Tryd.prog ops Q rest (a.put o.dst undef) w') : wpList Tryd.prog ops Q (o :: rest) a w := by
  refine wpList_plain hgd fun _ hK => ?_
  unfold Oper.wp execOp
  simp only [ho, Instr.storeAt, hx, hy, Instr.sureAddr, Sem.run_bind, Sem.run_pure, Result.andThen_ok, hl]
  exact hK _ _ h
theorem wpList_index (hgd : o.guard = none) (t : TypeId) (x y : Operand) (ho : o.op = .index t x y) (cs : List Value) (n : Nat) (e : TypeId) (i : Nat) (v : Value) (hx : a.eval x = .agg cs.toArray) (hy : a.eval y = .int .i64 (i : Int))
    (hu : Tryd.prog.underlying t = some (.array n e)) (hz : (sizeOf e).run Tryd.prog w = .ok 1 w) (hag : (isAgg e).run Tryd.prog w = .ok false w) (hi : i < n) (hv : cs[i]? = some v)
    (h : wpList Tryd.prog ops Q rest (a.put o.dst v) w) : wpList Tryd.prog ops Q (o :: rest) a w := by
  refine wpList_plain hgd fun _ hK => ?_
  unfold Oper.wp execOp
  have hpart : (part e cs.toArray i).run Tryd.prog w = .ok v w := by
    unfold part
    simp [hag, hv]
  have hr : (Instr.index t (.agg cs.toArray) (.int .i64 (i : Int))).run Tryd.prog w = .ok v w := by
    simp [Instr.index, asIntOf, run_underlying hu, hz, hpart]
    omega
  simp only [ho, hx, hy, Sem.run_bind, Sem.run_pure, hr, Result.andThen_ok]
  exact hK _ _ h
end
end Go.Proofs.YtaagfmnpeimakaaDoor
