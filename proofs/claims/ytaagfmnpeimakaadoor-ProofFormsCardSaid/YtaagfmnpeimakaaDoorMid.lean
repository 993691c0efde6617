/-
  General: a struct or an array by value out of the middle of a block, into it; what a call leaves as it was but for some blocks.
-/
import Derived.Test.YtaagfmnpeimakaaDoorArr
import Derived.Deep.MidRow
namespace Go.Proofs.YtaagfmnpeimakaaDoor
open Go.RowKit
theorem Arr.range {B : Nat} {w : World} {cs : List Value} (h : Arr B w cs) (o : Nat) (ds : List Value) (hd : ∀ j u, ds[j]? = some u → cs[o + j]? = some u) : w.rangeAt B o ds := fun j u hj => h.cell _ u (hd j u hj)
theorem Arr.there {B : Nat} {w : World} {cs : List Value} (h : Arr B w cs) (o n : Nat) (hn : o + n ≤ cs.length) : w.there B o n := fun j hj => ⟨by rw [h.cell (o + j) _ (List.getElem?_eq_getElem (by omega))]; rfl, h.frozen _⟩
theorem Arr.loadMid {B : Nat} {w : World} {cs : List Value} (h : Arr B w cs) (o : Nat) (ds : List Value) (hd : ∀ j u, ds[j]? = some u → cs[o + j]? = some u) (t : TypeId) (d : TypeDesc)
    (hu : Tryd.prog.underlying t = some d) (hr : d.isRow = true) (hi : (Tryd.prog.info? t).map (·.size) = some ds.length) : (loadVar t ⟨B, o, none⟩).run Tryd.prog w = .ok (.agg ds.toArray) w :=
  run_loadVar_mid w B o t ds d (h.range o ds hd) hu hr hi
/-- The cells 'ds' from 'o' on. -/
def mid (cs : List Value) (o : Nat) (ds : List Value) : List Value := cs.take o ++ ds ++ cs.drop (o + ds.length)
theorem mid_length (cs : List Value) (o : Nat) (ds : List Value) (h : o + ds.length ≤ cs.length) : (mid cs o ds).length = cs.length := by
  unfold mid
  simp only [List.length_append, List.length_take, List.length_drop]
  omega
theorem Arr.storeMid {B : Nat} {w : World} {cs : List Value} (h : Arr B w cs) (o : Nat) (ds : List Value) (ho : o + ds.length ≤ cs.length) (t : TypeId)
    (hi : (Tryd.prog.info? t).map (·.size) = some ds.length) (h1 : ∀ v ∈ ds, v.oneCell' = true) :
    ∃ w', (storeVar t ⟨B, o, none⟩ (.agg ds.toArray)).run Tryd.prog w = .ok () w' ∧ Arr B w' (mid cs o ds) ∧ w.grownBy w' (some B) := by
  obtain ⟨t', hg⟩ := h
  have hst := run_storeCells_at (P := Tryd.prog) B o t' ds 0 cs.toArray w hg (by simpa using ho) h1
  refine ⟨_, ?_, ⟨t', setRow_heap w B cs.toArray _ t' (0, 0) hg⟩, ⟨rfl, rfl, rfl, by simp, fun k _ hk => setRow_other w B k _ (fun e => hk (by simp [e]))⟩⟩
  cases hq : Tryd.prog.info? t with
  | none => simp [hq] at hi
  | some i =>
    have hs : ds.length = i.size := by simp [hq] at hi; omega
    simp only [Nat.add_zero] at hst
    simp [storeVar, sizeOf, typeInfo, hq, Value.cells, hs]
    simpa [mid, hs] using hst
/-- All that was there is as it was but for the blocks in 'S'. -/
structure Chg (S : Nat → Prop) (w w' : World) : Prop where
  os : w'.os = w.os
  tape : w'.tape = w.tape
  output : w'.output = w.output
  size : w.heap.size ≤ w'.heap.size
  kept : ∀ k, k < w.heap.size → ¬ S k → w'.heap[k]? = w.heap[k]?
theorem Chg.refl (S : Nat → Prop) (w : World) : Chg S w w := ⟨rfl, rfl, rfl, Nat.le_refl _, fun _ _ _ => rfl⟩
theorem Chg.trans {S : Nat → Prop} {a b c : World} (h : Chg S a b) (k : Chg S b c) : Chg S a c :=
  ⟨k.os.trans h.os, k.tape.trans h.tape, k.output.trans h.output, Nat.le_trans h.size k.size, fun i hi hs => (k.kept i (Nat.lt_of_lt_of_le hi h.size) hs).trans (h.kept i hi hs)⟩
theorem Chg.of_below {S : Nat → Prop} {w w' : World} (h : Below w.heap.size w w') : Chg S w w' := ⟨h.os, h.tape, h.output, h.size, fun k hk _ => h.block k hk⟩
theorem Chg.of_grown {S : Nat → Prop} {w w' : World} {r : Option Nat} (h : w.grownBy w' r) (hr : ∀ k, r = some k → w.heap.size ≤ k ∨ S k) : Chg S w w' :=
  ⟨h.os, h.tape, h.output, h.size, fun k hk hs => h.block k hk fun e => (hr k e.symm).elim (fun h => by omega) hs⟩
theorem Chg.mono {S T : Nat → Prop} {w w' : World} (h : Chg S w w') (k : ∀ i, i < w.heap.size → S i → T i) : Chg T w w' := ⟨h.os, h.tape, h.output, h.size, fun i hi ht => h.kept i hi fun hs => ht (k i hi hs)⟩
/-- .. seen from a world ahead of which none of these blocks was there. -/
theorem Chg.below {S : Nat → Prop} {n : Nat} {a w w' : World} (h : Chg S w w') (hb : Below n a w) (hn : n ≤ w.heap.size) (hs : ∀ k, k < n → ¬ S k) : Below n a w' :=
  hb.trans ⟨h.os, h.tape, h.output, h.size, fun k hk => h.kept k (by omega) (hs k hk)⟩
theorem Chg.bel {S : Nat → Prop} {w w' : World} {n : Nat} (h : Chg S w w') (hn : n ≤ w.heap.size) (hs : ∀ k, k < n → ¬ S k) : Below n w w' := h.below (Below.refl n w) hn hs
/-- From an elder world: what lies behind it may change. -/
theorem Chg.base {S T : Nat → Prop} {a w w' : World} (h : Chg T w w') (hb : Chg S a w) (k : ∀ i, i < a.heap.size → T i → S i) : Chg S a w' :=
  ⟨h.os.trans hb.os, h.tape.trans hb.tape, h.output.trans hb.output, Nat.le_trans hb.size h.size, fun i hi hs => (h.kept i (Nat.lt_of_lt_of_le hi hb.size) fun ht => hs (k i hi ht)).trans (hb.kept i hi hs)⟩
theorem Arr.chg {B : Nat} {S : Nat → Prop} {w w' : World} {cs : List Value} (h : Arr B w cs) (k : Chg S w w') (hne : ¬ S B) : Arr B w' cs := by
  have hl := h.lt
  obtain ⟨t, h⟩ := h
  exact ⟨t, (k.kept B hl hne).trans h⟩
theorem row_chg {S : Nat → Prop} {w w' : World} {b : Nat} {e : TypeId} {z : Nat} {v : Value} {n : Nat} {xs : List Value} (h : w.ownsRow b e z v n xs) (k : Chg S w w') (hne : ∀ g, v.ownBlock = some g → ¬ S g) : w'.ownsRow b e z v n xs := by
  have hlt := h.lt
  refine ⟨h.1, ?_⟩
  rcases h.2 with h | ⟨g, cap, cur, rfl, h1, h2, h3⟩
  · exact .inl h
  · exact .inr ⟨g, cap, cur, rfl, h1, (k.kept g (hlt g rfl).2 (hne g rfl)).trans h2, h3⟩
theorem row_mono {w : World} {b b' : Nat} {e : TypeId} {z : Nat} {v : Value} {n : Nat} {xs : List Value} (h : w.ownsRow b e z v n xs) (hb : b' ≤ b) : w.ownsRow b' e z v n xs := by
  refine ⟨h.1, ?_⟩
  rcases h.2 with h | ⟨g, cap, cur, rfl, h1, h2⟩
  · exact .inl h
  · exact .inr ⟨g, cap, cur, rfl, Nat.le_trans hb h1, h2⟩
end Go.Proofs.YtaagfmnpeimakaaDoor
