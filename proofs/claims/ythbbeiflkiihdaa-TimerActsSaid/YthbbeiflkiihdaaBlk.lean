/-
  General: a block of the call's own that holds these cells and may be written; what is written elsewhere leaves it as it is.
-/
import Derived.Test.YthbbeiflkiihdaaBox2
import Derived.Test.YthbbeiflkiihdaaInts
namespace Go.Proofs.Ythbbeiflkiihdaa
open Go.RowKit
/-- Block 'B' holds these cells, and may be written. -/
def Blk (B : Nat) (w : World) (cs : List Value) : Prop := Box B w cs ∧ ∀ o, w.frozen? ⟨B, o, none⟩ = false
theorem Blk.lt {B : Nat} {w : World} {c : Value} {cs : List Value} (h : Blk B w (c :: cs)) : B < w.heap.size := h.1.lt
theorem Blk.below {B : Nat} {w w' : World} {c : Value} {cs : List Value} (h : Blk B w (c :: cs)) (k : Below w.heap.size w w') : Blk B w' (c :: cs) :=
  ⟨h.1.below k, fun o => (k.frozen (p := ⟨B, o, none⟩) h.lt).trans (h.2 o)⟩
theorem Blk.grown {B : Nat} {w w' : World} {c : Value} {cs : List Value} {r : Option Nat} (h : Blk B w (c :: cs)) (k : w.grownBy w' r) (hne : some B ≠ r) : Blk B w' (c :: cs) :=
  ⟨h.1.grown k hne, fun o => (World.frozen?_of_block (a := ⟨B, o, none⟩) (k.block B h.lt hne)).trans (h.2 o)⟩
theorem Blk.new (w : World) (cs : List Value) (t : TypeId) : Blk w.heap.size (w.alloc (.cells cs.toArray t)) cs := ⟨Box.new w cs t, fun o => by simp⟩
theorem Blk.at {B n : Nat} {a : World} {cs : List Value} (h : Blk B a cs) (e : B = n) : Blk n a cs := e ▸ h
theorem Blk.alloc {B : Nat} {a : World} {c : Value} {cs : List Value} (h : Blk B a (c :: cs)) (o : Obj) : Blk B (a.alloc o) (c :: cs) := h.below ((Below.refl _ a).alloc (Nat.le_refl _) o)
theorem Blk.drew {B : Nat} {a : World} {cs : List Value} (h : Blk B a cs) : Blk B a.drew cs := h
theorem Blk.cell {B : Nat} {a : World} {cs : List Value} (h : Blk B a cs) (j : Nat) (u : Value) (hj : cs[j]? = some u) : a.cell? ⟨B, j, none⟩ = some u := h.1 j u hj
theorem Blk.set {B : Nat} {w : World} {cs : List Value} (h : Blk B w cs) (j : Nat) (u : Value) : Blk B (w.setCell ⟨B, j, none⟩ u) (cs.set j u) := by
  refine ⟨fun i v hi => ?_, fun o => by rw [World.frozen?_setCell]; exact h.2 o⟩
  have hlt : i < cs.length := by have := (List.getElem?_eq_some_iff.1 hi).1; simpa using this
  by_cases e : i = j
  · subst e
    rw [List.getElem?_set_self hlt] at hi
    cases hi
    exact World.cell?_setCell_same _ _ _ (h.1 i _ (List.getElem?_eq_getElem hlt))
  · rw [List.getElem?_set_ne (fun x => e x.symm)] at hi
    rw [World.cell?_setCell_other _ _ _ _ (fun x => e (Addr.mk.inj x).2.1.symm)]
    exact h.1 i v hi
theorem Blk.setOther {B : Nat} {w : World} {cs : List Value} (h : Blk B w cs) {p : Addr} (hne : p.block ≠ B) (u : Value) : Blk B (w.setCell p u) cs :=
  ⟨h.1.setCell hne u, fun o => by rw [World.frozen?_setCell]; exact h.2 o⟩
theorem blk_grown (w : World) (a : Addr) (u : Value) : w.grownBy (w.setCell a u) (some a.block) :=
  ⟨rfl, rfl, rfl, by simp, fun k _ hk => Below.heap_setCell w a u k (fun e => hk (by rw [e]))⟩
/-- A row of the call's own while a cell of another block is written. -/
theorem row_other {W : World} {b : Nat} {e : TypeId} {v : Value} {n : Nat} {xs : List Value} (h : W.ownsRow b e 1 v n xs) {p : Addr} (hg : v.ownBlock ≠ some p.block) (u : Value) : (W.setCell p u).ownsRow b e 1 v n xs :=
  h.kept (blk_grown W p u) (.inr fun x => hg x)
theorem row_below {W W' : World} {b : Nat} {e : TypeId} {v : Value} {n : Nat} {xs : List Value} (h : W.ownsRow b e 1 v n xs) (hb : Below W.heap.size W W') : W'.ownsRow b e 1 v n xs :=
  h.kept (row := none) ⟨hb.os, hb.tape, hb.output, hb.size, fun k hk _ => hb.block k hk⟩ (by cases hv : v.ownBlock <;> simp)
/-- Integers pushed behind a row of the call's own; what else has changed lies in the row's own block. At a step of a region that draws:
go_region_law (refine step_catR rfl _ _ rfl base zs r hown hsz hr rfl rfl hlen ?_; intro v' w2 h1 h2). -/
theorem one_catR {o : Oper} {a : Act} {K : Act → World → Prop} {Q : Exit → Act → World → Prop} (sl x : Operand)
    (ho : o.op = .call { callee := .builtin .append, args := #[sl, x], argTypes := #[37, 37] })
    {W : World} (base : Nat) (zs r : List Int) {v vx : Value} (hown : W.ownsRow base 3 1 v zs.length (cellsI zs)) (hsz : base ≤ W.heap.size) (hne : r ≠ []) (hr : ReadsI W vx r)
    (hs : a.eval sl = v) (hx : a.eval x = vx) (hl : (zs.length + r.length) * 8 ≤ 140737488355328)
    (h : ∀ v' w', w'.ownsRow base 3 1 v' (zs.length + r.length) (cellsI (zs ++ r)) → W.grownBy w' v.ownBlock → K (a.put o.dst v') w') : o.wp Try.prog a W K Q := by
  obtain ⟨i0, hi, hz0, hz1, hz2⟩ := info_parts infoI
  have hcat : ∀ (ad : Addr) (cap : Nat), vx = .slice (some ad) r.length cap → (∀ j u, (cellsI r)[j]? = some u → W.cell? (ad.add j) = some u) → o.wp Try.prog a W K Q := by
    intro ad cap e hc
    subst e
    exact wp_append_own _ sl x 37 ho base 3 i0 (.int .i64 0) 1 8 Try.underlying37 hi hz0 hz1 hz2 rfl (by decide) v zs.length (cellsI zs) hs hown ad r.length cap (cellsI r) hx (by simp [cellsI]) hc (cellsI_one r) (by unfold maxLen; omega) hl hsz
      fun v' w' h1 h2 _ => h v' w' (by rw [cellsI_append]; exact h1) h2
  rcases hr with ⟨h0, _⟩ | ⟨b, off, cap, rfl, hle, hc⟩
  · exact absurd h0 hne
  · refine hcat _ cap rfl fun j u hj => ?_
    rw [add_at]
    exact hc j u hj
theorem step_catR {ops : Array Oper} {o : Oper} {a : Act} {K : Act → World → Prop} {Q : Exit → Act → World → Prop} {E : Prop} (hgd : o.guard = none) (sl x : Operand)
    (ho : o.op = .call { callee := .builtin .append, args := #[sl, x], argTypes := #[37, 37] })
    {W : World} (base : Nat) (zs r : List Int) {v vx : Value} (hown : W.ownsRow base 3 1 v zs.length (cellsI zs)) (hsz : base ≤ W.heap.size) (hne : r ≠ []) (hr : ReadsI W vx r)
    (hs : a.eval sl = v) (hx : a.eval x = vx) (hl : (zs.length + r.length) * 8 ≤ 140737488355328)
    (h : ∀ v' w', w'.ownsRow base 3 1 v' (zs.length + r.length) (cellsI (zs ++ r)) → W.grownBy w' v.ownBlock → K (a.put o.dst v') w') :
    if Region.wanted o (yielded ops a.tmps) = true then Oper.wp Try.prog o a W K Q else E := by
  have hw : Region.wanted o (yielded ops a.tmps) = true := by simp [Region.wanted, hgd]
  rw [if_pos hw]
  exact one_catR sl x ho base zs r hown hsz hne hr hs hx hl h
theorem wp_catR {ops : Array Oper} {rest : List Oper} {o : Oper} {a : Act} {Q : Exit → Act → World → Prop} (hgd : o.guard = none) (sl x : Operand)
    (ho : o.op = .call { callee := .builtin .append, args := #[sl, x], argTypes := #[37, 37] })
    {W : World} (base : Nat) (zs r : List Int) {v vx : Value} (hown : W.ownsRow base 3 1 v zs.length (cellsI zs)) (hsz : base ≤ W.heap.size) (hne : r ≠ []) (hr : ReadsI W vx r)
    (hs : a.eval sl = v) (hx : a.eval x = vx) (hl : (zs.length + r.length) * 8 ≤ 140737488355328)
    (h : ∀ v' w', w'.ownsRow base 3 1 v' (zs.length + r.length) (cellsI (zs ++ r)) → W.grownBy w' v.ownBlock → wpList Try.prog ops Q rest (a.put o.dst v') w') :
    wpList Try.prog ops Q (o :: rest) a W :=
  wpList_plain hgd fun _ hK => one_catR sl x ho base zs r hown hsz hne hr hs hx hl fun v' w' h1 h2 => hK _ _ (h v' w' h1 h2)
theorem row_reads {W : World} {b : Nat} {v : Value} {zs : List Int} (h : W.ownsRow b 3 1 v zs.length (cellsI zs)) : ReadsI W v zs := by
  have hc := fun g hg => h.cells (g := g) hg
  rcases h.2 with ⟨rfl, h0⟩ | ⟨g, cap, cur, rfl, _, _, hn, _⟩
  · obtain rfl : zs = [] := List.length_eq_zero_iff.1 h0
    exact readsI_nil W
  · refine .inr ⟨g, 0, cap, rfl, hn, fun j u hj => ?_⟩
    have := hc g rfl j u hj
    rwa [add_at] at this
theorem row_same {W W' : World} {b : Nat} {e : TypeId} {v : Value} {n : Nat} {xs : List Value} (h : W.ownsRow b e 1 v n xs) (k : ∀ g, v.ownBlock = some g → W'.heap[g]? = W.heap[g]?) : W'.ownsRow b e 1 v n xs := by
  refine ⟨h.1, ?_⟩
  rcases h.2 with h | ⟨g, cap, cur, rfl, h1, h2, h3⟩
  · exact .inl h
  · exact .inr ⟨g, cap, cur, rfl, h1, (k g rfl).trans h2, h3⟩
theorem cell_grown {a b : World} {B j : Nat} {u : Value} {r : Option Nat} (h : a.cell? ⟨B, j, none⟩ = some u) (k : a.grownBy b r) (hne : some B ≠ r) : b.cell? ⟨B, j, none⟩ = some u :=
  (World.cell?_of_block (a := ⟨B, j, none⟩) (k.block B (block_lt_of_cell h) hne)).trans h
theorem cell_other {a : World} {B j : Nat} {u : Value} (h : a.cell? ⟨B, j, none⟩ = some u) {p : Addr} (hne : p.block ≠ B) (v : Value) : (a.setCell p v).cell? ⟨B, j, none⟩ = some u :=
  (World.cell?_of_block (a := ⟨B, j, none⟩) (Below.heap_setCell a p v B (fun e => hne e.symm))).trans h
theorem row_form {W : World} {b : Nat} {e : TypeId} {v : Value} {n : Nat} {xs : List Value} (h : W.ownsRow b e 1 v n xs) : ∃ p cap, v = .slice p n cap := by
  rcases h.2 with ⟨rfl, h0⟩ | ⟨g, cap, cur, rfl, _⟩
  · subst h0
    exact ⟨none, 0, rfl⟩
  · exact ⟨_, cap, rfl⟩
theorem row_apart {W : World} {b : Nat} {e : TypeId} {v : Value} {n : Nat} {xs : List Value} (h : W.ownsRow b e 1 v n xs) {g : Nat} (hg : g < b) : some g ≠ v.ownBlock := fun x => by
  have := (h.lt g x.symm).1
  omega
end Go.Proofs.Ythbbeiflkiihdaa
