/-
  General: a block that holds exactly these cells; a whole array out of it, into it, an element of an array by value, as a walk's steps.
  General: a struct or an array by value out of the middle of a block, into it; what a call leaves as it was but for some blocks.
  Two links held against each other: at the operation.
  Slices of options (a kind and its data, two cells each): that came in, or of the call's own: read, copied, pushed behind.
  Links in blocks of their own: out of a block, into one, as a walk's steps; what a program's policy must be for the walks.
  General: slices of integers, that came in or of the call's own: read, made, pushed behind, written.
  General: texts in parts, texts one behind the other, bytes just laid as a text; a box's first cells as a region's condition.
  The library's own contract for a string that is cloned, laid at this program: the clone holds the same bytes, and nothing that was there has changed.
  (The text below is what the kit's two commands print for this program: a table of numbers, one field a row.)
  A text that is cloned holds the same bytes; nothing that was there has changed.
  Two options held against each other: at the operation.
  Contracts of the laws' own helpers over options: held against each other, copied, lent with marked room, kept.
-/
import Derived.Test.YteabkmelnoefiaaGreatDoorZ02
import Derived.Test.YteabkmelnoefiaaGreatDoorZ01
import Derived.Test.YteabkmelnoefiaaGreatDoorZ03
import Derived.Laws.Rows
import Derived.Laws.Tables
import Derived.Laws.AppendOwn
import Derived.Laws.OwnMore
import Derived.Deep.MidRow
import Derived.Laws.StructEq
import Derived.Laws.AppendOwnNone
import Derived.RegionTactic
import Derived.Laws.MakeOwn
import Derived.Maps.AppendAt
import Derived.Laws.Concat
import Derived.Shelf.LaysM
import Derived.Shelf.Strconv.Clone
import Derived.Test.YteabkmelnoefiaaGreatDoorProg
import Derived.Deep.QuietTactic
import Derived.BigQuiet
import Derived.Deep.WholeRow
namespace Go.Proofs.YteabkmelnoefiaaGreatDoor
open Go.RowKit
/-- Block 'B' holds exactly these cells. -/
def Arr (B : Nat) (w : World) (cs : List Value) : Prop := ∃ t, w.heap[B]? = some (.cells cs.toArray t (0, 0))
theorem Arr.lt {B : Nat} {w : World} {cs : List Value} (h : Arr B w cs) : B < w.heap.size := by
  obtain ⟨t, h⟩ := h
  exact (Array.getElem?_eq_some_iff.1 h).1
theorem Arr.below {B : Nat} {w w' : World} {cs : List Value} (h : Arr B w cs) (k : Below w.heap.size w w') : Arr B w' cs := by
  have hl := h.lt
  obtain ⟨t, h⟩ := h
  exact ⟨t, (k.block B hl).trans h⟩
theorem Arr.new (w : World) (cs : List Value) (t : TypeId) : Arr w.heap.size (w.alloc (.cells cs.toArray t)) cs := ⟨t, heap_alloc_new w _⟩
theorem Arr.at {B n : Nat} {a : World} {cs : List Value} (h : Arr B a cs) (e : B = n) : Arr n a cs := e ▸ h
theorem Arr.cell {B : Nat} {w : World} {cs : List Value} (h : Arr B w cs) (j : Nat) (u : Value) (hj : cs[j]? = some u) : w.cell? ⟨B, j, none⟩ = some u := by
  obtain ⟨t, h⟩ := h
  rw [cell_of_row w B j _ t (0, 0) h]
  simpa using hj
theorem Arr.frozen {B : Nat} {w : World} {cs : List Value} (h : Arr B w cs) (o : Nat) : w.frozen? ⟨B, o, none⟩ = false := by
  obtain ⟨t, h⟩ := h
  simp [World.frozen?, h]
theorem Arr.load {B : Nat} {w : World} {cs : List Value} (h : Arr B w cs) (t : TypeId) (n : Nat) (e : TypeId) (hu : Tryz.prog.underlying t = some (.array n e)) (hi : (Tryz.prog.info? t).map (·.size) = some cs.length) :
    (loadVar t ⟨B, 0, none⟩).run Tryz.prog w = .ok (.agg cs.toArray) w := by
  obtain ⟨t', h⟩ := h
  exact run_loadVar_row w B t' t cs.toArray (0, 0) _ h hu rfl (by rw [hi]; simp)
theorem Arr.store {B : Nat} {w : World} {cs ds : List Value} (h : Arr B w cs) (t : TypeId) (hi : (Tryz.prog.info? t).map (·.size) = some ds.length) (hl : cs.length = ds.length) (h1 : ∀ v ∈ ds, v.oneCell' = true) :
    ∃ w', (storeVar t ⟨B, 0, none⟩ (.agg ds.toArray)).run Tryz.prog w = .ok () w' ∧ Arr B w' ds ∧ w.grownBy w' (some B) := by
  obtain ⟨t', h⟩ := h
  refine ⟨_, run_storeVar_row w B t' t cs.toArray ds.toArray h (by rw [hi]; simp) (by simpa using hl) (by rw [Array.all_eq_true_iff_forall_mem]; intro v hv; exact h1 v (by simpa using hv)), ⟨t', ?_⟩, ?_⟩
  · exact setRow_heap w B cs.toArray ds.toArray t' (0, 0) h
  · exact ⟨rfl, rfl, rfl, by simp, fun k _ hk => setRow_other w B k _ (fun e => hk (by simp [e]))⟩
theorem Arr.set {B : Nat} {w : World} {cs : List Value} (h : Arr B w cs) (j : Nat) (u : Value) : Arr B (w.setCell ⟨B, j, none⟩ u) (cs.set j u) := by
  obtain ⟨t, h⟩ := h
  refine ⟨t, ?_⟩
  rw [heap_setCell_same w B j cs.toArray t u h, List.setIfInBounds_toArray]
theorem Arr.grown {B : Nat} {w w' : World} {cs : List Value} {r : Option Nat} (h : Arr B w cs) (k : w.grownBy w' r) (hne : some B ≠ r) : Arr B w' cs := by
  have hl := h.lt
  obtain ⟨t, h⟩ := h
  exact ⟨t, (k.block B hl hne).trans h⟩
theorem below_of_grown {b : Nat} {w0 w w' : World} {B : Nat} (h : Below b w0 w) (k : w.grownBy w' (some B)) (hB : b ≤ B) (e : b = w0.heap.size) : Below b w0 w' := by
  subst e
  exact ⟨k.os.trans h.os, k.tape.trans h.tape, k.output.trans h.output, Nat.le_trans h.size k.size, fun i hi => (k.block i (Nat.lt_of_lt_of_le hi h.size) (by simp; omega)).trans (h.block i hi)⟩
section
variable {ops : Array Oper} {rest : List Oper} {o : Oper} {a : Act} {Q : Exit → Act → World → Prop} {w : World}
theorem wpList_load (hgd : o.guard = none) (t : TypeId) (x : Operand) (ho : o.op = .load t x) (p : Addr) (v : Value) (hx : a.eval x = .pointer (some p)) (hl : (loadVar t p).run Tryz.prog w = .ok v w)
    (h : wpList Tryz.prog ops Q rest (a.put o.dst v) w) : wpList Tryz.prog ops Q (o :: rest) a w := by
  refine wpList_plain hgd fun _ hK => ?_
  unfold Oper.wp execOp
  simp only [ho, Instr.loadAt, hx, Instr.sureAddr, Sem.run_bind, Sem.run_pure, Result.andThen_ok, hl]
  exact hK _ _ h
theorem wpList_store (hgd : o.guard = none) (t : TypeId) (x y : Operand) (ho : o.op = .store t x y) (p : Addr) (v : Value) (w' : World) (hx : a.eval x = .pointer (some p)) (hy : a.eval y = v) (hl : (storeVar t p v).run Tryz.prog w = .ok () w')
    (h : wpList Tryz.prog ops Q rest (a.put o.dst undef) w') : wpList Tryz.prog ops Q (o :: rest) a w := by
  refine wpList_plain hgd fun _ hK => ?_
  unfold Oper.wp execOp
  simp only [ho, Instr.storeAt, hx, hy, Instr.sureAddr, Sem.run_bind, Sem.run_pure, Result.andThen_ok, hl]
  exact hK _ _ h
theorem wpList_index (hgd : o.guard = none) (t : TypeId) (x y : Operand) (ho : o.op = .index t x y) (cs : List Value) (n : Nat) (e : TypeId) (i : Nat) (v : Value) (hx : a.eval x = .agg cs.toArray) (hy : a.eval y = .int .i64 (i : Int))
    (hu : Tryz.prog.underlying t = some (.array n e)) (hz : (sizeOf e).run Tryz.prog w = .ok 1 w) (hag : (isAgg e).run Tryz.prog w = .ok false w) (hi : i < n) (hv : cs[i]? = some v)
    (h : wpList Tryz.prog ops Q rest (a.put o.dst v) w) : wpList Tryz.prog ops Q (o :: rest) a w := by
  refine wpList_plain hgd fun _ hK => ?_
  unfold Oper.wp execOp
  have hpart : (part e cs.toArray i).run Tryz.prog w = .ok v w := by
    unfold part
    simp [hag, hv]
  have hr : (Instr.index t (.agg cs.toArray) (.int .i64 (i : Int))).run Tryz.prog w = .ok v w := by
    simp [Instr.index, asIntOf, run_underlying hu, hz, hpart]
    omega
  simp only [ho, hx, hy, Sem.run_bind, Sem.run_pure, hr, Result.andThen_ok]
  exact hK _ _ h
end
end Go.Proofs.YteabkmelnoefiaaGreatDoor
namespace Go.Proofs.YteabkmelnoefiaaGreatDoor
open Go.RowKit
theorem Arr.range {B : Nat} {w : World} {cs : List Value} (h : Arr B w cs) (o : Nat) (ds : List Value) (hd : ∀ j u, ds[j]? = some u → cs[o + j]? = some u) : w.rangeAt B o ds := fun j u hj => h.cell _ u (hd j u hj)
theorem Arr.there {B : Nat} {w : World} {cs : List Value} (h : Arr B w cs) (o n : Nat) (hn : o + n ≤ cs.length) : w.there B o n := fun j hj => ⟨by rw [h.cell (o + j) _ (List.getElem?_eq_getElem (by omega))]; rfl, h.frozen _⟩
theorem Arr.loadMid {B : Nat} {w : World} {cs : List Value} (h : Arr B w cs) (o : Nat) (ds : List Value) (hd : ∀ j u, ds[j]? = some u → cs[o + j]? = some u) (t : TypeId) (d : TypeDesc)
    (hu : Tryz.prog.underlying t = some d) (hr : d.isRow = true) (hi : (Tryz.prog.info? t).map (·.size) = some ds.length) : (loadVar t ⟨B, o, none⟩).run Tryz.prog w = .ok (.agg ds.toArray) w :=
  run_loadVar_mid w B o t ds d (h.range o ds hd) hu hr hi
/-- The cells 'ds' from 'o' on. -/
def mid (cs : List Value) (o : Nat) (ds : List Value) : List Value := cs.take o ++ ds ++ cs.drop (o + ds.length)
theorem mid_length (cs : List Value) (o : Nat) (ds : List Value) (h : o + ds.length ≤ cs.length) : (mid cs o ds).length = cs.length := by
  unfold mid
  simp only [List.length_append, List.length_take, List.length_drop]
  omega
theorem Arr.storeMid {B : Nat} {w : World} {cs : List Value} (h : Arr B w cs) (o : Nat) (ds : List Value) (ho : o + ds.length ≤ cs.length) (t : TypeId)
    (hi : (Tryz.prog.info? t).map (·.size) = some ds.length) (h1 : ∀ v ∈ ds, v.oneCell' = true) :
    ∃ w', (storeVar t ⟨B, o, none⟩ (.agg ds.toArray)).run Tryz.prog w = .ok () w' ∧ Arr B w' (mid cs o ds) ∧ w.grownBy w' (some B) := by
  obtain ⟨t', hg⟩ := h
  have hst := run_storeCells_at (P := Tryz.prog) B o t' ds 0 cs.toArray w hg (by simpa using ho) h1
  refine ⟨_, ?_, ⟨t', setRow_heap w B cs.toArray _ t' (0, 0) hg⟩, ⟨rfl, rfl, rfl, by simp, fun k _ hk => setRow_other w B k _ (fun e => hk (by simp [e]))⟩⟩
  cases hq : Tryz.prog.info? t with
  | none => simp [hq] at hi
  | some i =>
    have hs : ds.length = i.size := by simp [hq] at hi; omega
    simp only [Nat.add_zero] at hst
    simp [storeVar, sizeOf, typeInfo, hq, Value.cells, hs]
    simpa [mid, hs] using hst
/-- All that was there is as it was but for the blocks in 'S'. -/
structure Chg (S : Nat → Prop) (w w' : World) : Prop where
  os : w'.os = w.os
  tape : w'.tape = w.tape
  output : w'.output = w.output
  size : w.heap.size ≤ w'.heap.size
  kept : ∀ k, k < w.heap.size → ¬ S k → w'.heap[k]? = w.heap[k]?
theorem Chg.refl (S : Nat → Prop) (w : World) : Chg S w w := ⟨rfl, rfl, rfl, Nat.le_refl _, fun _ _ _ => rfl⟩
theorem Chg.trans {S : Nat → Prop} {a b c : World} (h : Chg S a b) (k : Chg S b c) : Chg S a c :=
  ⟨k.os.trans h.os, k.tape.trans h.tape, k.output.trans h.output, Nat.le_trans h.size k.size, fun i hi hs => (k.kept i (Nat.lt_of_lt_of_le hi h.size) hs).trans (h.kept i hi hs)⟩
theorem Chg.of_below {S : Nat → Prop} {w w' : World} (h : Below w.heap.size w w') : Chg S w w' := ⟨h.os, h.tape, h.output, h.size, fun k hk _ => h.block k hk⟩
theorem Chg.of_grown {S : Nat → Prop} {w w' : World} {r : Option Nat} (h : w.grownBy w' r) (hr : ∀ k, r = some k → w.heap.size ≤ k ∨ S k) : Chg S w w' :=
  ⟨h.os, h.tape, h.output, h.size, fun k hk hs => h.block k hk fun e => (hr k e.symm).elim (fun h => by omega) hs⟩
theorem Chg.mono {S T : Nat → Prop} {w w' : World} (h : Chg S w w') (k : ∀ i, i < w.heap.size → S i → T i) : Chg T w w' := ⟨h.os, h.tape, h.output, h.size, fun i hi ht => h.kept i hi fun hs => ht (k i hi hs)⟩
/-- .. seen from a world ahead of which none of these blocks was there. -/
theorem Chg.below {S : Nat → Prop} {n : Nat} {a w w' : World} (h : Chg S w w') (hb : Below n a w) (hn : n ≤ w.heap.size) (hs : ∀ k, k < n → ¬ S k) : Below n a w' :=
  hb.trans ⟨h.os, h.tape, h.output, h.size, fun k hk => h.kept k (by omega) (hs k hk)⟩
theorem Chg.bel {S : Nat → Prop} {w w' : World} {n : Nat} (h : Chg S w w') (hn : n ≤ w.heap.size) (hs : ∀ k, k < n → ¬ S k) : Below n w w' := h.below (Below.refl n w) hn hs
/-- From an elder world: what lies behind it may change. -/
theorem Chg.base {S T : Nat → Prop} {a w w' : World} (h : Chg T w w') (hb : Chg S a w) (k : ∀ i, i < a.heap.size → T i → S i) : Chg S a w' :=
  ⟨h.os.trans hb.os, h.tape.trans hb.tape, h.output.trans hb.output, Nat.le_trans hb.size h.size, fun i hi hs => (h.kept i (Nat.lt_of_lt_of_le hi hb.size) fun ht => hs (k i hi ht)).trans (hb.kept i hi hs)⟩
theorem Arr.chg {B : Nat} {S : Nat → Prop} {w w' : World} {cs : List Value} (h : Arr B w cs) (k : Chg S w w') (hne : ¬ S B) : Arr B w' cs := by
  have hl := h.lt
  obtain ⟨t, h⟩ := h
  exact ⟨t, (k.kept B hl hne).trans h⟩
theorem row_chg {S : Nat → Prop} {w w' : World} {b : Nat} {e : TypeId} {z : Nat} {v : Value} {n : Nat} {xs : List Value} (h : w.ownsRow b e z v n xs) (k : Chg S w w') (hne : ∀ g, v.ownBlock = some g → ¬ S g) : w'.ownsRow b e z v n xs := by
  have hlt := h.lt
  refine ⟨h.1, ?_⟩
  rcases h.2 with h | ⟨g, cap, cur, rfl, h1, h2, h3⟩
  · exact .inl h
  · exact .inr ⟨g, cap, cur, rfl, h1, (k.kept g (hlt g rfl).2 (hne g rfl)).trans h2, h3⟩
theorem row_mono {w : World} {b b' : Nat} {e : TypeId} {z : Nat} {v : Value} {n : Nat} {xs : List Value} (h : w.ownsRow b e z v n xs) (hb : b' ≤ b) : w.ownsRow b' e z v n xs := by
  refine ⟨h.1, ?_⟩
  rcases h.2 with h | ⟨g, cap, cur, rfl, h1, h2⟩
  · exact .inl h
  · exact .inr ⟨g, cap, cur, rfl, Nat.le_trans hb h1, h2⟩
end Go.Proofs.YteabkmelnoefiaaGreatDoor
namespace Go.Proofs.YteabkmelnoefiaaGreatDoor.Pl
open Go.RowKit
theorem in_links (l m : Pol.Lk) (W : World) : (Op.equalIn 10000 23 (lv l) (lv m)).run Tryz.prog W = .ok (decide (l = m)) W := by
  have h1 : Tryz.prog.underlying 23 = some (.struct (Tryz.prog.fieldsOf 23)) := by kernel_rfl
  have h2 : Tryz.prog.stoodInHeld 23 = false := by kernel_rfl
  obtain ⟨a, b, c, s, d, n⟩ := l
  obtain ⟨a2, b2, c2, s2, d2, n2⟩ := m
  unfold lv
  rw [show (10000 : Nat) = 9998 + 1 + 1 from rfl, run_equalIn_agg W _ _ _ _ h1 h2]
  simp [go_sem, Tryz.underlying23, Tryz.underlying3, Tryz.underlying4, Tryz.underlying9]
  by_cases e1 : a = a2 <;> by_cases e2 : b = b2 <;> by_cases e3 : c = c2 <;> by_cases e4 : s = s2 <;> by_cases e5 : d = d2 <;> by_cases e6 : n = n2 <;> simp [e1, e2, e3, e4, e5, e6]
/-- What a walk wants of a comparison: the comparison, what it is made of. -/
def EqL (x y : Value) (r : Bool) : Prop := (∀ W : World, (Op.equalIn 10000 23 x y).run Tryz.prog W = .ok r W) ∧ (∀ W : World, (binOp .neq 23 x y).run Tryz.prog W = .ok (.bool (!r)) W) ∧
  (∀ W : World, (binOp .eql 23 x y).run Tryz.prog W = .ok (.bool r) W)
theorem eqL_any (l m : Pol.Lk) : EqL (lv l) (lv m) (decide (l = m)) := by
  refine ⟨fun W => in_links l m W, fun W => ?_, fun W => ?_⟩
  · have e := in_links l m W
    unfold lv at e ⊢
    rw [run_neq_struct, e]; rfl
  · have e := in_links l m W
    unfold lv at e ⊢
    rw [run_eql_struct, e]; rfl
theorem guardL : Tryz.prog.eqGuardType Tryz.prog.depth 23 = false := by kernel_rfl
end Go.Proofs.YteabkmelnoefiaaGreatDoor.Pl
namespace Go.Proofs.YteabkmelnoefiaaGreatDoor
open Go.RowKit
theorem infoO : (Tryz.prog.info? 82).map (fun i => (i.zero, i.size, i.bytes)) = some (some (.agg #[.int .i64 0, .string ⟨#[]⟩]), 2, 24) := by kernel_rfl
/-- An option as a value. -/
def opv (o : Opt.Op) : Value := .agg #[.int .i64 o.1, .string ⟨o.2.toArray⟩]
def cellsO (os : List Opt.Op) : List Value := os.flatMap fun f => [.int .i64 f.1, .string ⟨f.2.toArray⟩]
theorem cellsO_append (l r : List Opt.Op) : cellsO (l ++ r) = cellsO l ++ cellsO r := by simp [cellsO]
theorem cellsO_cons (f : Opt.Op) (r : List Opt.Op) : cellsO (f :: r) = Value.int .i64 f.1 :: Value.string ⟨f.2.toArray⟩ :: cellsO r := by simp [cellsO]
theorem cellsO_length (l : List Opt.Op) : (cellsO l).length = l.length * 2 := by
  induction l with
  | nil => rfl
  | cons f r ih => rw [cellsO_cons]; simp; omega
theorem cellsO_one (l : List Opt.Op) : ∀ u ∈ cellsO l, u.oneCell' = true := by
  intro u hu
  simp only [cellsO, List.mem_flatMap] at hu
  obtain ⟨f, _, hf⟩ := hu
  simp only [List.mem_cons, List.not_mem_nil, or_false] at hf
  rcases hf with rfl | rfl <;> rfl
theorem cellsO_at (fs : List Opt.Op) : ∀ (k : Nat) (h : k < fs.length), (cellsO fs)[2 * k]? = some (.int .i64 fs[k].1) ∧ (cellsO fs)[2 * k + 1]? = some (.string ⟨fs[k].2.toArray⟩) := by
  induction fs with
  | nil => intro k h; simp at h
  | cons f r ih =>
    intro k h
    match k, h with
    | 0, _ => rw [cellsO_cons]; simp
    | k + 1, h =>
      obtain ⟨h1, h2⟩ := ih k (by simpa using h)
      rw [cellsO_cons, show 2 * (k + 1) = 2 * k + 1 + 1 by omega]
      simp only [List.getElem?_cons_succ, List.getElem_cons_succ]
      exact ⟨h1, h2⟩
theorem cellsO_of (fs : List Opt.Op) (P : Nat → Value → Prop) (h : ∀ k (h : k < fs.length), P (2 * k) (.int .i64 fs[k].1) ∧ P (2 * k + 1) (.string ⟨fs[k].2.toArray⟩)) : ∀ j u, (cellsO fs)[j]? = some u → P j u := by
  intro j u hj
  have hlt := (List.getElem?_eq_some_iff.1 hj).1
  rw [cellsO_length] at hlt
  have hk : j / 2 < fs.length := by omega
  obtain ⟨h1, h2⟩ := h (j / 2) hk
  obtain ⟨c1, c2⟩ := cellsO_at fs (j / 2) hk
  rcases Nat.mod_two_eq_zero_or_one j with hm | hm
  · have e : 2 * (j / 2) = j := by omega
    rw [e] at h1 c1
    rw [c1] at hj
    cases hj
    exact h1
  · have e : 2 * (j / 2) + 1 = j := by omega
    rw [e] at h2 c2
    rw [c2] at hj
    cases hj
    exact h2
/-- 'v' is a slice that reads as these options. -/
def ReadsO (W : World) (v : Value) (os : List Opt.Op) : Prop := (os = [] ∧ ((∃ a cap, v = .slice (some a) 0 cap) ∨ v = .slice none 0 0)) ∨
  ∃ b off cap, v = .slice (some ⟨b, off, none⟩) os.length cap ∧ os.length ≤ cap ∧ ∀ j u, (cellsO os)[j]? = some u → W.cell? ⟨b, off + j, none⟩ = some u
theorem ReadsO.below {W W' : World} {v : Value} {os : List Opt.Op} (h : ReadsO W v os) (hb : Below W.heap.size W W') : ReadsO W' v os := by
  rcases h with h | ⟨b, off, cap, e, hl, hc⟩
  · exact .inl h
  · exact .inr ⟨b, off, cap, e, hl, fun j u hj => (hb.cell (block_lt_of_cell (hc j u hj))).trans (hc j u hj)⟩
set_option maxRecDepth 100000 in
theorem opt_index (b off n cap k : Nat) (hk : k < n) (W : World) : (Instr.indexAt 34 (.slice (some ⟨b, off, none⟩) n cap) (.int .i64 (k : Int))).run Tryz.prog W = .ok (.pointer (some ⟨b, off + 2 * k, none⟩)) W := by
  have hs : (sizeOf (Tryz.prog.elem 34)).run Tryz.prog W = .ok 2 W := Tryz.sizeOf82 W
  have e := run_indexAt_slice (P := Tryz.prog) W 34 ⟨b, off, none⟩ n cap .i64 (k : Int) Tryz.underlying34
  rw [if_pos (by omega), hs] at e
  simp only [Result.andThen, Int.toNat_natCast] at e
  rw [e]
  have e2 : (⟨b, off, none⟩ : Addr).add (k * 2) = ⟨b, off + 2 * k, none⟩ := by
    rw [Nat.mul_comm]
    unfold Addr.add
    split <;> simp_all
  rw [e2]
/-- As the walks take it. -/
theorem ReadsO.at {W : World} {v : Value} {os : List Opt.Op} (h : ReadsO W v os) : ∃ (p : Option Addr) (cap b off : Nat), v = .slice p os.length cap ∧ (os.length ≤ cap) ∧ (0 < os.length → p = some ⟨b, off, none⟩) ∧
    (∀ k, k < os.length → ∀ W' : World, (Instr.indexAt 34 (.slice p os.length cap) (.int .i64 (k : Int))).run Tryz.prog W' = .ok (.pointer (some ⟨b, off + 2 * k, none⟩)) W') ∧
    ∀ k (h : k < os.length), W.cell? ⟨b, off + 2 * k, none⟩ = some (.int .i64 os[k].1) ∧ W.cell? ⟨b, off + 2 * k + 1, none⟩ = some (.string ⟨os[k].2.toArray⟩) := by
  rcases h with ⟨rfl, ⟨a, cap, rfl⟩ | rfl⟩ | ⟨b, off, cap, rfl, hl, hc⟩
  · exact ⟨_, cap, 0, 0, rfl, by simp, fun h => absurd h (by simp), fun k hk => absurd hk (by simp), fun k hk => absurd hk (by simp)⟩
  · exact ⟨_, 0, 0, 0, rfl, by simp, fun h => absurd h (by simp), fun k hk => absurd hk (by simp), fun k hk => absurd hk (by simp)⟩
  · exact ⟨_, cap, b, off, rfl, hl, fun _ => rfl, fun k hk W' => opt_index b off _ cap k hk W', fun k hk => ⟨hc _ _ (cellsO_at os k hk).1, hc _ _ (cellsO_at os k hk).2⟩⟩
theorem reads_nil (W : World) : ReadsO W (.slice none 0 0) [] := .inl ⟨rfl, .inr rfl⟩
theorem add_lit (b off j : Nat) : (⟨b, off, none⟩ : Addr).add j = ⟨b, off + j, none⟩ := by unfold Addr.add; split <;> simp_all
/-- A block just laid reads as the options that were laid. -/
theorem reads_lit (W : World) (os : List Opt.Op) (C : Array Value) (h : C = (cellsO os).toArray) : ReadsO (W.alloc (.cells C 82)) (.slice (some ⟨W.heap.size, 0, none⟩) os.length os.length) os := by
  subst h
  refine .inr ⟨_, _, _, rfl, Nat.le_refl _, fun j u hj => ?_⟩
  have := new_cells W (cellsO os) 82 j u hj
  rwa [add_lit] at this
theorem reads_lit_at (W : World) (n : Nat) (hn : W.heap.size = n) (os : List Opt.Op) (C : Array Value) (h : C = (cellsO os).toArray) : ReadsO (W.alloc (.cells C 82)) (.slice (some ⟨n, 0, none⟩) os.length os.length) os := by
  subst hn
  exact reads_lit W os C h
/-- 'v' is a slice of options of the call's own (the call began in 'w'), it holds 'os'; nothing that was there has changed. -/
def OwnsO (w wr : World) (v : Value) (os : List Opt.Op) : Prop := wr.ownsRow w.heap.size 82 2 v os.length (cellsO os) ∧ Below w.heap.size w wr
theorem OwnsO.nil (w : World) : OwnsO w w (.slice none 0 0) [] := ⟨World.ownsRow_nil _ _ _ _, Below.refl _ _⟩
theorem OwnsO.below {w W W' : World} {v : Value} {os : List Opt.Op} (h : OwnsO w W v os) (hb : Below W.heap.size W W') : OwnsO w W' v os :=
  ⟨h.1.kept (row := none) ⟨hb.os, hb.tape, hb.output, hb.size, fun k hk _ => hb.block k hk⟩ (by cases hv : v.ownBlock <;> simp), h.2.trans (hb.mono h.2.size)⟩
theorem OwnsO.reads {w W : World} {v : Value} {os : List Opt.Op} (h : OwnsO w W v os) : ReadsO W v os := by
  have hc := fun g hg => h.1.cells (g := g) hg
  rcases h.1.2 with ⟨rfl, h0⟩ | ⟨g, cap, cur, rfl, _, _, hn, _⟩
  · obtain rfl : os = [] := List.length_eq_zero_iff.1 h0
    exact reads_nil W
  · refine .inr ⟨g, 0, cap, rfl, hn, fun j u hj => ?_⟩
    have := hc g rfl j u hj
    rwa [add_lit] at this
/-- An empty slice that was just made. -/
theorem OwnsO.made (w : World) : OwnsO w (w.alloc (.cells #[] 82)) (.slice (some ⟨w.heap.size, 0, none⟩) 0 0) [] := by
  refine ⟨⟨rfl, .inr ⟨w.heap.size, 0, #[], rfl, Nat.le_refl _, ?_, Nat.le_refl _, by unfold maxLen; omega, rfl, rfl⟩⟩, (Below.refl _ _).alloc (Nat.le_refl _) _⟩
  exact heap_alloc_new _ _
theorem OwnsO.drew {w W : World} {v : Value} {os : List Opt.Op} (h : OwnsO w W v os) : OwnsO w W.drew v os := ⟨h.1, h.2.drew⟩
theorem ReadsO.drew {W : World} {v : Value} {os : List Opt.Op} (h : ReadsO W v os) : ReadsO W.drew v os := h
/-- Whatever reads as options, pushed behind a slice of the call's own: at the operation. -/
theorem one_catO {o : Oper} {a : Act} {K : Act → World → Prop} {Q : Exit → Act → World → Prop} (sl x : Operand)
    (ho : o.op = .call { callee := .builtin .append, args := #[sl, x], argTypes := #[34, 34] })
    {W w : World} (os r : List Opt.Op) {v vx : Value} (hown : OwnsO w W v os) (hr : ReadsO W vx r)
    (hs : a.eval sl = v) (hx : a.eval x = vx) (hl : (os.length + r.length) * 24 ≤ 140737488355328)
    (h : ∀ v' w', OwnsO w w' v' (os ++ r) → K (a.put o.dst v') w') : o.wp Tryz.prog a W K Q := by
  obtain ⟨i0, hi, hz0, hz1, hz2⟩ := info_parts infoO
  obtain ⟨hown, hb⟩ := hown
  have hsz := hb.size
  have hfin : ∀ v' w' n, n = r.length → w'.ownsRow w.heap.size 82 2 v' (os.length + n) (cellsO os ++ cellsO r) → W.grownBy w' v.ownBlock → K (a.put o.dst v') w' := by
    intro v' w' n hn hown' hgrow
    subst hn
    refine h v' w' ⟨?_, ?_⟩
    · rw [cellsO_append, List.length_append]; exact hown'
    · exact hb.grown hgrow hsz (fun k hk => (hown.lt k hk).1)
  have hcat : ∀ (ad : Addr) (cap : Nat), vx = .slice (some ad) r.length cap → (∀ j u, (cellsO r)[j]? = some u → W.cell? (ad.add j) = some u) → o.wp Tryz.prog a W K Q := by
    intro ad cap e hc
    subst e
    exact wp_append_own _ sl x 34 ho w.heap.size 82 i0 (.agg #[.int .i64 0, .string ⟨#[]⟩]) 2 24 Tryz.underlying34 hi hz0 hz1 hz2 rfl (by decide) v os.length (cellsO os) hs hown ad r.length cap (cellsO r) hx (cellsO_length r) hc (cellsO_one r) (by unfold maxLen; omega) hl hsz
      fun v' w' h1 h2 _ => hfin v' w' _ rfl h1 h2
  rcases hr with ⟨rfl, ⟨ad, cap, rfl⟩ | rfl⟩ | ⟨b, off, cap, rfl, hle, hc⟩
  · exact hcat ad cap rfl fun j u hj => by simp [cellsO] at hj
  · have hrun := run_append_owned_none (P := Tryz.prog) (w := W) w.heap.size 34 o.type 82 i0 2 Tryz.underlying34 hi v os.length (cellsO os) hown
    have h0 := h v W ⟨by rw [List.append_nil]; exact hown, hb⟩
    unfold Oper.wp
    simp [execOp, ho, resolve, invoke, builtin, hs, hx, hrun, Result.andThen]
    exact h0
  · refine hcat _ cap rfl fun j u hj => ?_
    rw [add_lit]
    exact hc j u hj
/-- .. in a plain region's list: the arm is (at_builtin; refine wp_catO rfl _ _ rfl os r hown hr rfl rfl hlen ?_; intro v' w2 hown2). -/
theorem wp_catO {ops : Array Oper} {rest : List Oper} {o : Oper} {a : Act} {Q : Exit → Act → World → Prop} (hgd : o.guard = none) (sl x : Operand)
    (ho : o.op = .call { callee := .builtin .append, args := #[sl, x], argTypes := #[34, 34] })
    {W w : World} (os r : List Opt.Op) {v vx : Value} (hown : OwnsO w W v os) (hr : ReadsO W vx r)
    (hs : a.eval sl = v) (hx : a.eval x = vx) (hl : (os.length + r.length) * 24 ≤ 140737488355328)
    (h : ∀ v' w', OwnsO w w' v' (os ++ r) → wpList Tryz.prog ops Q rest (a.put o.dst v') w') :
    wpList Tryz.prog ops Q (o :: rest) a W :=
  wpList_plain hgd fun _ hK => one_catO sl x ho os r hown hr hs hx hl fun v' w' h2 => hK _ _ (h v' w' h2)
/-- .. at a step of a region that draws: go_region_law (refine step_catO rfl _ _ rfl os r hown hr rfl rfl hlen ?_; intro v' w2 hown2). -/
theorem step_catO {ops : Array Oper} {o : Oper} {a : Act} {K : Act → World → Prop} {Q : Exit → Act → World → Prop} {E : Prop} (hgd : o.guard = none) (sl x : Operand)
    (ho : o.op = .call { callee := .builtin .append, args := #[sl, x], argTypes := #[34, 34] })
    {W w : World} (os r : List Opt.Op) {v vx : Value} (hown : OwnsO w W v os) (hr : ReadsO W vx r)
    (hs : a.eval sl = v) (hx : a.eval x = vx) (hl : (os.length + r.length) * 24 ≤ 140737488355328)
    (h : ∀ v' w', OwnsO w w' v' (os ++ r) → K (a.put o.dst v') w') :
    if Region.wanted o (yielded ops a.tmps) = true then Oper.wp Tryz.prog o a W K Q else E := by
  have hw : Region.wanted o (yielded ops a.tmps) = true := by simp [Region.wanted, hgd]
  rw [if_pos hw]
  exact one_catO sl x ho os r hown hr hs hx hl h
end Go.Proofs.YteabkmelnoefiaaGreatDoor
namespace Go.Proofs.YteabkmelnoefiaaGreatDoor.Pl
open Go.RowKit
set_option maxRecDepth 100000
def lcs (l : Pol.Lk) : List Value := [.int .i64 l.mru, .int .i64 l.magic, .int .i64 l.mrru, .bool l.short, .string ⟨l.disc.toArray⟩, .int .i64 l.num]
theorem infoL : (Tryz.prog.info? 23).map (·.size) = some 6 := by kernel_rfl
/-- Block 'B' holds this link. -/
def Lnk (B : Nat) (w : World) (l : Pol.Lk) : Prop := Arr B w (lcs l)
theorem Lnk.lt {B : Nat} {w : World} {l : Pol.Lk} (h : Lnk B w l) : B < w.heap.size := Arr.lt h
theorem Lnk.below {B : Nat} {w w' : World} {l : Pol.Lk} (h : Lnk B w l) (k : Below w.heap.size w w') : Lnk B w' l := Arr.below h k
theorem Lnk.new (w : World) (l : Pol.Lk) : Lnk w.heap.size (w.alloc (.cells (lcs l).toArray 23)) l := Arr.new w (lcs l) 23
theorem Lnk.new_at (w : World) (l : Pol.Lk) (B : Nat) (hB : B = w.heap.size) : Lnk B (w.alloc (.cells (lcs l).toArray 23)) l := hB ▸ Lnk.new w l
theorem Lnk.grown {B : Nat} {w w' : World} {l : Pol.Lk} {r : Option Nat} (h : Lnk B w l) (k : w.grownBy w' r) (hne : some B ≠ r) : Lnk B w' l := Arr.grown h k hne
theorem Lnk.load {B : Nat} {w : World} {l : Pol.Lk} (h : Lnk B w l) : (loadVar 23 ⟨B, 0, none⟩).run Tryz.prog w = .ok (lv l) w := by
  obtain ⟨t', h⟩ := h
  exact run_loadVar_row w B t' 23 (lcs l).toArray (0, 0) _ h Tryz.underlying23 rfl infoL
theorem Lnk.store {B : Nat} {w : World} {l : Pol.Lk} (h : Lnk B w l) (m : Pol.Lk) : ∃ w', (storeVar 23 ⟨B, 0, none⟩ (lv m)).run Tryz.prog w = .ok () w' ∧ Lnk B w' m ∧ w.grownBy w' (some B) :=
  Arr.store (ds := lcs m) h 23 infoL rfl (by intro v hv; simp [lcs] at hv; rcases hv with rfl | rfl | rfl | rfl | rfl | rfl <;> rfl)
section
variable {ops : Array Oper} {rest : List Oper} {o : Oper} {a : Act} {Q : Exit → Act → World → Prop} {w : World}
/-- A link out of its block, be the step guarded or not. -/
theorem step_link (hw : Region.wanted o (yielded ops a.tmps) = true) (x : Operand) (ho : o.op = .load 23 x) (B : Nat) (l : Pol.Lk) (hx : a.eval x = .pointer (some ⟨B, 0, none⟩)) (hl : Lnk B w l)
    (h : wpList Tryz.prog ops Q rest (a.put o.dst (lv l)) w) : wpList Tryz.prog ops Q (o :: rest) a w := by
  refine wpList_step fun _ hK => ?_
  rw [if_pos hw]
  unfold Oper.wp execOp
  simp only [ho, Instr.loadAt, hx, Instr.sureAddr, Sem.run_bind, Sem.run_pure, Result.andThen_ok, hl.load]
  exact hK _ _ h
/-- A link into a block. -/
theorem step_keep (hgd : o.guard = none) (x y : Operand) (ho : o.op = .store 23 x y) (B : Nat) (l m : Pol.Lk) (hx : a.eval x = .pointer (some ⟨B, 0, none⟩)) (hy : a.eval y = lv m) (hl : Lnk B w l)
    (h : ∀ w', Lnk B w' m → w.grownBy w' (some B) → wpList Tryz.prog ops Q rest (a.put o.dst undef) w') : wpList Tryz.prog ops Q (o :: rest) a w := by
  obtain ⟨w', hs, h1, h2⟩ := hl.store m
  exact wpList_store hgd 23 x y ho _ _ w' hx hy hs (h w' h1 h2)
end
theorem guard_lv (op : BinOp) (x y : Operand) (l m : Pol.Lk) (W : World) : (eqGuard op 23 x y (lv l) (lv m)).run Tryz.prog W = .ok () W := by
  have h := guardL
  unfold lv
  cases op <;> first | rfl | simp [go_sem, h]
theorem reads_pos {W : World} {v : Value} {os : List Pol.Op} (h : ReadsO W v os) (h0 : 0 < os.length) : ∃ b off cap, v = .slice (some ⟨b, off, none⟩) os.length cap := by
  rcases h with ⟨rfl, _⟩ | ⟨b, off, cap, rfl, _, _⟩
  · simp at h0
  · exact ⟨b, off, cap, rfl⟩
theorem reads_form {W : World} {v : Value} {os : List Pol.Op} (h : ReadsO W v os) : ∃ p cap, v = .slice p os.length cap := by
  obtain ⟨p, cap, _, _, e, _⟩ := h.at
  exact ⟨p, cap, e⟩
theorem reads_cells {W : World} {b off n cap : Nat} {os : List Pol.Op} (h : ReadsO W (.slice (some ⟨b, off, none⟩) n cap) os) (k : Nat) (hk : k < os.length) :
    W.cell? ⟨b, off + 2 * k, none⟩ = some (.int .i64 os[k].1) ∧ W.cell? ⟨b, off + 2 * k + 1, none⟩ = some (.string ⟨os[k].2.toArray⟩) := by
  rcases h with ⟨rfl, _⟩ | ⟨b', off', cap', e, _, hc⟩
  · simp at hk
  · simp only [Value.slice.injEq, Option.some.injEq, Addr.mk.injEq, and_true] at e
    obtain ⟨⟨rfl, rfl⟩, _, rfl⟩ := e
    exact ⟨hc _ _ (cellsO_at os k hk).1, hc _ _ (cellsO_at os k hk).2⟩
/-- A store into a block that is new changes nothing that was there. -/
theorem kept_new {W W' : World} {o : Obj} {B : Nat} (hB : B = W.heap.size) (k : (W.alloc o).grownBy W' (some B)) : Below W.heap.size W W' :=
  below_of_grown ((Below.refl W.heap.size W).alloc (Nat.le_refl _) o) k (Nat.le_of_eq hB.symm) rfl
/-- What the walks want of the program's policy, in every world behind 'w0'. -/
structure PolOk (w0 : World) : Prop where
  ask : ∀ l W, Below w0.heap.size w0 W → Calls Tryz.prog 30 #[lv l] W fun e w' => ∃ v, e = .returned (.tuple #[v, .int .i64 (Pol.ask l).2]) ∧ ReadsO w' v (Pol.ask l).1 ∧ Below W.heap.size W w'
  judge : ∀ own v os W, Below w0.heap.size w0 W → ReadsO W v os → os.length ≤ 1000000 → Calls Tryz.prog 90 #[lv own, v] W fun e w' => ∃ u, e = .returned (.tuple #[.int .i64 (Pol.judge nm own os).1, u, .int .i64 (Pol.judge nm own os).2.2]) ∧ ReadsO w' u (Pol.judge nm own os).2.1 ∧ Below W.heap.size W w'
  learn : ∀ l code v os W, Below w0.heap.size w0 W → ReadsO W v os → os.length * 24 ≤ 140737488351232 → (∀ o ∈ os, o.2.length ≤ 140737488351232) → Calls Tryz.prog 92 #[lv l, .int .i64 code, v] W fun e w' => e = .returned (.tuple #[lv (Pol.learn nm l code os).1, .int .i64 (Pol.learn nm l code os).2]) ∧ Below W.heap.size W w'
  taken : ∀ v os W, Below w0.heap.size w0 W → ReadsO W v os → os.length ≤ 1000000 → (∀ o ∈ os, 0 ≤ o.1 ∧ o.1 ≤ 255) → (∀ o ∈ os, o.2.length ≤ 1000000) → Calls Tryz.prog 96 #[v] W fun e w' => e = .returned (.tuple #[lv (Pol.taken nm os).1, .int .i64 (Pol.taken nm os).2]) ∧ Below W.heap.size W w'
theorem PolOk.later {w0 w1 : World} (h : PolOk w0) (hb : Below w0.heap.size w0 w1) : PolOk w1 :=
  ⟨fun l W k => h.ask l W (bel2 hb k), fun own v os W k => h.judge own v os W (bel2 hb k), fun l code v os W k => h.learn l code v os W (bel2 hb k), fun v os W k => h.taken v os W (bel2 hb k)⟩
end Go.Proofs.YteabkmelnoefiaaGreatDoor.Pl
namespace Go.Proofs.YteabkmelnoefiaaGreatDoor
open Go.RowKit
theorem infoI : (Tryz.prog.info? 3).map (fun i => (i.zero, i.size, i.bytes)) = some (some (.int .i64 0), 1, 8) := by kernel_rfl
def cellsI (zs : List Int) : List Value := zs.map fun z => .int .i64 z
theorem cellsI_append (l r : List Int) : cellsI (l ++ r) = cellsI l ++ cellsI r := by simp [cellsI]
theorem cellsI_length (l : List Int) : (cellsI l).length = l.length := by simp [cellsI]
theorem cellsI_one (l : List Int) : ∀ u ∈ cellsI l, u.oneCell' = true := by
  intro u hu
  simp only [cellsI, List.mem_map] at hu
  obtain ⟨z, _, rfl⟩ := hu
  rfl
theorem cellsI_at (l : List Int) (k : Nat) (h : k < l.length) : (cellsI l)[k]? = some (.int .i64 l[k]) := by simp [cellsI, h]
theorem cellsI_of (l : List Int) (P : Nat → Value → Prop) (h : ∀ k (h : k < l.length), P k (.int .i64 l[k])) : ∀ j u, (cellsI l)[j]? = some u → P j u := by
  intro j u hj
  have hlt := (List.getElem?_eq_some_iff.1 hj).1
  rw [cellsI_length] at hlt
  rw [cellsI_at l j hlt] at hj
  cases hj
  exact h j hlt
theorem cellsI_set (l : List Int) (k : Nat) (z : Int) : cellsI (l.set k z) = (cellsI l).set k (.int .i64 z) := by simp [cellsI, List.map_set]
theorem add_at (b off j : Nat) : (⟨b, off, none⟩ : Addr).add j = ⟨b, off + j, none⟩ := by unfold Addr.add; split <;> simp_all
/-- 'v' is a slice that reads as these integers. -/
def ReadsI (W : World) (v : Value) (zs : List Int) : Prop := (zs = [] ∧ ((∃ a cap, v = .slice (some a) 0 cap) ∨ v = .slice none 0 0)) ∨
  ∃ b off cap, v = .slice (some ⟨b, off, none⟩) zs.length cap ∧ zs.length ≤ cap ∧ ∀ j u, (cellsI zs)[j]? = some u → W.cell? ⟨b, off + j, none⟩ = some u
theorem ReadsI.below {W W' : World} {v : Value} {zs : List Int} (h : ReadsI W v zs) (hb : Below W.heap.size W W') : ReadsI W' v zs := by
  rcases h with h | ⟨b, off, cap, e, hl, hc⟩
  · exact .inl h
  · exact .inr ⟨b, off, cap, e, hl, fun j u hj => (hb.cell (block_lt_of_cell (hc j u hj))).trans (hc j u hj)⟩
theorem ReadsI.drew {W : World} {v : Value} {zs : List Int} (h : ReadsI W v zs) : ReadsI W.drew v zs := h
set_option maxRecDepth 100000 in
theorem intI_index (b off n cap k : Nat) (hk : k < n) (W : World) : (Instr.indexAt 55 (.slice (some ⟨b, off, none⟩) n cap) (.int .i64 (k : Int))).run Tryz.prog W = .ok (.pointer (some ⟨b, off + k, none⟩)) W := by
  have hs : (sizeOf (Tryz.prog.elem 55)).run Tryz.prog W = .ok 1 W := Tryz.sizeOf3 W
  have e := run_indexAt_slice (P := Tryz.prog) W 55 ⟨b, off, none⟩ n cap .i64 (k : Int) Tryz.underlying55
  rw [if_pos (by omega), hs] at e
  simp only [Result.andThen, Int.toNat_natCast] at e
  rw [e, Nat.mul_one, add_at]
/-- As the walks take it. -/
theorem ReadsI.at {W : World} {v : Value} {zs : List Int} (h : ReadsI W v zs) : ∃ (p : Option Addr) (cap b off : Nat), v = .slice p zs.length cap ∧ zs.length ≤ cap ∧ (0 < zs.length → p = some ⟨b, off, none⟩) ∧
    (∀ k, k < zs.length → ∀ W' : World, (Instr.indexAt 55 (.slice p zs.length cap) (.int .i64 (k : Int))).run Tryz.prog W' = .ok (.pointer (some ⟨b, off + k, none⟩)) W') ∧
    ∀ k (h : k < zs.length), W.cell? ⟨b, off + k, none⟩ = some (.int .i64 zs[k]) := by
  rcases h with ⟨rfl, ⟨a, cap, rfl⟩ | rfl⟩ | ⟨b, off, cap, rfl, hl, hc⟩
  · exact ⟨_, cap, 0, 0, rfl, by simp, fun h => absurd h (by simp), fun k hk => absurd hk (by simp), fun k hk => absurd hk (by simp)⟩
  · exact ⟨_, 0, 0, 0, rfl, by simp, fun h => absurd h (by simp), fun k hk => absurd hk (by simp), fun k hk => absurd hk (by simp)⟩
  · exact ⟨_, cap, b, off, rfl, hl, fun _ => rfl, fun k hk W' => intI_index b off _ cap k hk W', fun k hk => hc _ _ (cellsI_at zs k hk)⟩
theorem ReadsI.form {W : World} {v : Value} {zs : List Int} (h : ReadsI W v zs) : ∃ p cap, v = .slice p zs.length cap := by
  obtain ⟨p, cap, _, _, e, _⟩ := h.at
  exact ⟨p, cap, e⟩
theorem readsI_nil (W : World) : ReadsI W (.slice none 0 0) [] := .inl ⟨rfl, .inr rfl⟩
/-- A block just laid reads as the integers that were laid. -/
theorem readsI_lit (W : World) (n : Nat) (hn : W.heap.size = n) (zs : List Int) (C : Array Value) (h : C = (cellsI zs).toArray) : ReadsI (W.alloc (.cells C 3)) (.slice (some ⟨n, 0, none⟩) zs.length zs.length) zs := by
  subst h hn
  refine .inr ⟨_, _, _, rfl, Nat.le_refl _, fun j u hj => ?_⟩
  have := new_cells W (cellsI zs) 3 j u hj
  rwa [add_at] at this
/-- 'v' is a slice of integers of the call's own (the call began in 'w'), it holds 'zs'; nothing that was there has changed. -/
def OwnsI (w wr : World) (v : Value) (zs : List Int) : Prop := wr.ownsRow w.heap.size 3 1 v zs.length (cellsI zs) ∧ Below w.heap.size w wr
theorem OwnsI.nil (w : World) : OwnsI w w (.slice none 0 0) [] := ⟨World.ownsRow_nil _ _ _ _, Below.refl _ _⟩
theorem OwnsI.below {w W W' : World} {v : Value} {zs : List Int} (h : OwnsI w W v zs) (hb : Below W.heap.size W W') : OwnsI w W' v zs :=
  ⟨h.1.kept (row := none) ⟨hb.os, hb.tape, hb.output, hb.size, fun k hk _ => hb.block k hk⟩ (by cases hv : v.ownBlock <;> simp), h.2.trans (hb.mono h.2.size)⟩
theorem OwnsI.drew {w W : World} {v : Value} {zs : List Int} (h : OwnsI w W v zs) : OwnsI w W.drew v zs := ⟨h.1, h.2.drew⟩
theorem OwnsI.reads {w W : World} {v : Value} {zs : List Int} (h : OwnsI w W v zs) : ReadsI W v zs := by
  have hc := fun g hg => h.1.cells (g := g) hg
  rcases h.1.2 with ⟨rfl, h0⟩ | ⟨g, cap, cur, rfl, _, _, hn, _⟩
  · obtain rfl : zs = [] := List.length_eq_zero_iff.1 h0
    exact readsI_nil W
  · refine .inr ⟨g, 0, cap, rfl, hn, fun j u hj => ?_⟩
    have := hc g rfl j u hj
    rwa [add_at] at this
/-- Seen from an earlier world. -/
theorem OwnsI.base {w0 w W : World} {v : Value} {zs : List Int} (h : OwnsI w W v zs) (hb : Below w0.heap.size w0 w) : OwnsI w0 W v zs := by
  refine ⟨⟨h.1.1, ?_⟩, bel2 hb h.2⟩
  have hs := hb.size
  rcases h.1.2 with ⟨h1, h2⟩ | ⟨g, cap, cur, h1, h2, h3⟩
  · exact .inl ⟨h1, h2⟩
  · exact .inr ⟨g, cap, cur, h1, Nat.le_trans hs h2, h3⟩
theorem OwnsI.form {w W : World} {v : Value} {zs : List Int} (h : OwnsI w W v zs) (hn : 0 < zs.length) : ∃ g cap, v = .slice (some ⟨g, 0, none⟩) zs.length cap ∧ zs.length ≤ cap ∧ w.heap.size ≤ g ∧ g < W.heap.size := by
  rcases h.1.2 with ⟨_, h0⟩ | ⟨g, cap, cur, hv, hb, hg, hl, _⟩
  · omega
  · refine ⟨g, cap, hv, hl, hb, ?_⟩
    rcases Nat.lt_or_ge g W.heap.size with hlt | hge
    · exact hlt
    · rw [Array.getElem?_eq_none hge] at hg; cases hg
/-- An empty slice that was just made. -/
theorem OwnsI.made (w : World) : OwnsI w (w.alloc (.cells #[] 3)) (.slice (some ⟨w.heap.size, 0, none⟩) 0 0) [] := by
  refine ⟨⟨rfl, .inr ⟨w.heap.size, 0, #[], rfl, Nat.le_refl _, ?_, Nat.le_refl _, by unfold maxLen; omega, rfl, rfl⟩⟩, (Below.refl _ _).alloc (Nat.le_refl _) _⟩
  exact heap_alloc_new _ _
/-- A slice of so many integers, just laid. -/
theorem OwnsI.laid (w : World) (n : Nat) (hn : w.heap.size = n) (zs : List Int) (hl : zs.length ≤ 100000) (C : Array Value) (h : C = (cellsI zs).toArray) : OwnsI w (w.alloc (.cells C 3)) (.slice (some ⟨n, 0, none⟩) zs.length zs.length) zs := by
  subst h hn
  refine ⟨⟨by simp [cellsI], .inr ⟨w.heap.size, zs.length, (cellsI zs).toArray, rfl, Nat.le_refl _, heap_alloc_new _ _, Nat.le_refl _, by unfold maxLen; omega, by simp [cellsI], by simp [cellsI, ← List.map_take]⟩⟩, (Below.refl _ _).alloc (Nat.le_refl _) _⟩
/-- One of its integers is written over. -/
theorem OwnsI.set {w W : World} {g cap : Nat} {zs : List Int} (h : OwnsI w W (.slice (some ⟨g, 0, none⟩) zs.length cap) zs) (hg : w.heap.size ≤ g) (k : Nat) (z : Int) :
    OwnsI w (W.setCell ⟨g, k, none⟩ (.int .i64 z)) (.slice (some ⟨g, 0, none⟩) zs.length cap) (zs.set k z) := by
  refine ⟨?_, h.2.setCell hg _⟩
  have := (h.1.stored k (.int .i64 z)).1
  rw [cellsI_set, List.length_set]
  exact this
/-- Whatever reads as integers, pushed behind a slice of the call's own: at the operation. -/
theorem one_catI {o : Oper} {a : Act} {K : Act → World → Prop} {Q : Exit → Act → World → Prop} (sl x : Operand)
    (ho : o.op = .call { callee := .builtin .append, args := #[sl, x], argTypes := #[55, 55] })
    {W w : World} (zs r : List Int) {v vx : Value} (hown : OwnsI w W v zs) (hr : ReadsI W vx r)
    (hs : a.eval sl = v) (hx : a.eval x = vx) (hl : (zs.length + r.length) * 8 ≤ 140737488355328)
    (h : ∀ v' w', OwnsI w w' v' (zs ++ r) → K (a.put o.dst v') w') : o.wp Tryz.prog a W K Q := by
  obtain ⟨i0, hi, hz0, hz1, hz2⟩ := info_parts infoI
  obtain ⟨hown, hb⟩ := hown
  have hsz := hb.size
  have hfin : ∀ v' w' n, n = r.length → w'.ownsRow w.heap.size 3 1 v' (zs.length + n) (cellsI zs ++ cellsI r) → W.grownBy w' v.ownBlock → K (a.put o.dst v') w' := by
    intro v' w' n hn hown' hgrow
    subst hn
    refine h v' w' ⟨?_, ?_⟩
    · rw [cellsI_append, List.length_append]; exact hown'
    · exact hb.grown hgrow hsz (fun k hk => (hown.lt k hk).1)
  have hcat : ∀ (ad : Addr) (cap : Nat), vx = .slice (some ad) r.length cap → (∀ j u, (cellsI r)[j]? = some u → W.cell? (ad.add j) = some u) → o.wp Tryz.prog a W K Q := by
    intro ad cap e hc
    subst e
    exact wp_append_own _ sl x 55 ho w.heap.size 3 i0 (.int .i64 0) 1 8 Tryz.underlying55 hi hz0 hz1 hz2 rfl (by decide) v zs.length (cellsI zs) hs hown ad r.length cap (cellsI r) hx (by simp [cellsI]) hc (cellsI_one r) (by unfold maxLen; omega) hl hsz
      fun v' w' h1 h2 _ => hfin v' w' _ rfl h1 h2
  rcases hr with ⟨rfl, ⟨ad, cap, rfl⟩ | rfl⟩ | ⟨b, off, cap, rfl, hle, hc⟩
  · exact hcat ad cap rfl fun j u hj => by simp [cellsI] at hj
  · have hrun := run_append_owned_none (P := Tryz.prog) (w := W) w.heap.size 55 o.type 3 i0 1 Tryz.underlying55 hi v zs.length (cellsI zs) hown
    have h0 := h v W ⟨by rw [List.append_nil]; exact hown, hb⟩
    unfold Oper.wp
    simp [execOp, ho, resolve, invoke, builtin, hs, hx, hrun, Result.andThen]
    exact h0
  · refine hcat _ cap rfl fun j u hj => ?_
    rw [add_at]
    exact hc j u hj
/-- .. in a plain region's list: the arm is (at_builtin; refine wp_catI rfl _ _ rfl zs r hown hr rfl rfl hlen ?_; intro v' w2 hown2). -/
theorem wp_catI {ops : Array Oper} {rest : List Oper} {o : Oper} {a : Act} {Q : Exit → Act → World → Prop} (hgd : o.guard = none) (sl x : Operand)
    (ho : o.op = .call { callee := .builtin .append, args := #[sl, x], argTypes := #[55, 55] })
    {W w : World} (zs r : List Int) {v vx : Value} (hown : OwnsI w W v zs) (hr : ReadsI W vx r)
    (hs : a.eval sl = v) (hx : a.eval x = vx) (hl : (zs.length + r.length) * 8 ≤ 140737488355328)
    (h : ∀ v' w', OwnsI w w' v' (zs ++ r) → wpList Tryz.prog ops Q rest (a.put o.dst v') w') :
    wpList Tryz.prog ops Q (o :: rest) a W :=
  wpList_plain hgd fun _ hK => one_catI sl x ho zs r hown hr hs hx hl fun v' w' h2 => hK _ _ (h v' w' h2)
/-- .. at a step of a region that draws: go_region_law (refine step_catI rfl _ _ rfl zs r hown hr rfl rfl hlen ?_; intro v' w2 hown2). -/
theorem step_catI {ops : Array Oper} {o : Oper} {a : Act} {K : Act → World → Prop} {Q : Exit → Act → World → Prop} {E : Prop} (hgd : o.guard = none) (sl x : Operand)
    (ho : o.op = .call { callee := .builtin .append, args := #[sl, x], argTypes := #[55, 55] })
    {W w : World} (zs r : List Int) {v vx : Value} (hown : OwnsI w W v zs) (hr : ReadsI W vx r)
    (hs : a.eval sl = v) (hx : a.eval x = vx) (hl : (zs.length + r.length) * 8 ≤ 140737488355328)
    (h : ∀ v' w', OwnsI w w' v' (zs ++ r) → K (a.put o.dst v') w') :
    if Region.wanted o (yielded ops a.tmps) = true then Oper.wp Tryz.prog o a W K Q else E := by
  have hw : Region.wanted o (yielded ops a.tmps) = true := by simp [Region.wanted, hgd]
  rw [if_pos hw]
  exact one_catI sl x ho zs r hown hr hs hx hl h
/-- So many new integers. -/
theorem make_ints (k : Nat) (h : k ≤ 100000) (W : World) : (Instr.makeSlice 55 (.int .i64 (k : Int)) (.int .i64 (k : Int))).run Tryz.prog W = .ok (.slice (some ⟨W.heap.size, 0, none⟩) k k) (W.alloc (.cells (cellsI (List.replicate k 0)).toArray 3)) := by
  have hi := infoI
  cases hq : Tryz.prog.info? 3 with
  | none => rw [hq] at hi; cases hi
  | some i =>
    rw [hq] at hi
    simp only [Option.map_some, Option.some.injEq, Prod.mk.injEq] at hi
    obtain ⟨hz, hs, hb⟩ := hi
    have := run_make (P := Tryz.prog) W 55 3 i (.int .i64 0) Tryz.underlying55 hq hz .i64 .i64 k k (by omega) (by omega) (by rw [hb]; omega) (by omega)
    rw [hs] at this
    simp only [Int.toNat_natCast, Nat.mul_one, Value.cells] at this
    have e : madeCells #[Value.int .i64 0] k = (cellsI (List.replicate k 0)).toArray := by
      apply Array.toList_inj.1
      apply List.ext_getElem
      · simp [cellsI, madeCells]
      · intro i h1 h2
        simp [madeCells, cellsI, Nat.mod_one]
    rw [e] at this
    exact this
theorem grown_self (w : World) (row : Option Nat) : w.grownBy w row := ⟨rfl, rfl, rfl, Nat.le_refl _, fun _ _ _ => rfl⟩
end Go.Proofs.YteabkmelnoefiaaGreatDoor
namespace Go.Proofs.YteabkmelnoefiaaGreatDoor
open Go.RowKit
theorem cut_list (l : List UInt8) (a b : Nat) : (ByteArray.mk l.toArray).extract a b = ⟨((l.take b).drop a).toArray⟩ := by
  apply ByteArray.ext; apply Array.toList_inj.1
  simp [ByteArray.data_extract, List.extract, List.drop_take]
theorem tail_list (l : List UInt8) (a : Nat) : (ByteArray.mk l.toArray).extract a (ByteArray.mk l.toArray).size = ⟨(l.drop a).toArray⟩ := by
  rw [sz, cut_list l a, List.take_length]
/-- One text behind the other. -/
abbrev Sums (a b c : List UInt8) : Prop := ∀ W : World, (Op.stringOp .add { data := a.toArray } { data := b.toArray }).run Tryz.prog W = .ok (.string { data := c.toArray }) W
theorem sums (a b : List UInt8) (h : a.length + b.length ≤ 9223372036854775807) : Sums a b (a ++ b) := fun W => by
  rw [run_string_add_sum W _ _ (by simp [ByteArray.size]; omega), ByteArray.mk_append_mk]
/-- Bytes just laid in a block, as a text, behind a draw. -/
theorem conv_drew (w : World) (l : List UInt8) (cells : Array Value) (h : cells = (Lib.byteCells l).toArray) :
    (convert 113 9 (.slice (some ⟨w.heap.size, 0, none⟩) l.length l.length)).run Tryz.prog (w.alloc (.cells cells 5)).drew = .ok (.string ⟨l.toArray⟩) (w.alloc (.cells cells 5)).drew := by
  subst h
  refine run_convert_bytes_back _ 113 9 5 _ _ l Tryz.underlying113 Tryz.underlying5 Tryz.underlying9 ?_
  intro j hj
  exact new_cells w _ _ _ _ (by simp [Lib.byteCells, hj])
theorem box2_kept {B : Nat} {w a b : World} {x y : Value} (h : a.cell? ⟨B, 0, none⟩ = some x ∧ a.cell? ⟨B, 1, none⟩ = some y ∧ B < a.heap.size ∧ Below w.heap.size w a) (k : Below a.heap.size a b) :
    b.cell? ⟨B, 0, none⟩ = some x ∧ b.cell? ⟨B, 1, none⟩ = some y ∧ B < b.heap.size ∧ Below w.heap.size w b := by
  obtain ⟨h1, h2, h3, h4⟩ := h
  exact ⟨(k.cell (p := ⟨B, 0, none⟩) h3).trans h1, (k.cell (p := ⟨B, 1, none⟩) h3).trans h2, Nat.lt_of_lt_of_le h3 k.size, bel2 h4 k⟩
theorem box2_drew {B : Nat} {w a : World} {x y : Value} (h : a.cell? ⟨B, 0, none⟩ = some x ∧ a.cell? ⟨B, 1, none⟩ = some y ∧ B < a.heap.size ∧ Below w.heap.size w a) :
    a.drew.cell? ⟨B, 0, none⟩ = some x ∧ a.drew.cell? ⟨B, 1, none⟩ = some y ∧ B < a.drew.heap.size ∧ Below w.heap.size w a.drew := ⟨h.1, h.2.1, h.2.2.1, h.2.2.2.drew⟩
theorem box2_alloc {B : Nat} {w a : World} {x y : Value} (h : a.cell? ⟨B, 0, none⟩ = some x ∧ a.cell? ⟨B, 1, none⟩ = some y ∧ B < a.heap.size ∧ Below w.heap.size w a) (o : Obj) :
    (a.alloc o).cell? ⟨B, 0, none⟩ = some x ∧ (a.alloc o).cell? ⟨B, 1, none⟩ = some y ∧ B < (a.alloc o).heap.size ∧ Below w.heap.size w (a.alloc o) := box2_kept h ((Below.refl _ a).alloc (Nat.le_refl _) o)
/-- Two bytes, wherever they lie, as a string. -/
theorem conv_two (W : World) (B : Nat) (p q : UInt8) (x y : Int) (hx : (p.toNat : Int) = x) (hy : (q.toNat : Int) = y)
    (h0 : W.cell? ⟨B, 0, none⟩ = some (.int .u8 x)) (h1 : W.cell? ⟨B, 1, none⟩ = some (.int .u8 y)) :
    (convert 113 9 (.slice (some ⟨B, 0, none⟩) 2 2)).run Tryz.prog W = .ok (.string { data := [p, q].toArray }) W := by
  refine run_convert_bytes_back W 113 9 5 ⟨B, 0, none⟩ 2 [p, q] Tryz.underlying113 Tryz.underlying5 Tryz.underlying9 ?_
  intro j hj
  rw [box_add]
  match j, hj with
  | 0, _ => rw [h0, ← hx]; rfl
  | 1, _ => rw [h1, ← hy]; rfl
theorem box2_of {B : Nat} {w a : World} {x y : Value} {r : List Value} (h : Box B a (x :: y :: r)) (k : Below w.heap.size w a) :
    a.cell? ⟨B, 0, none⟩ = some x ∧ a.cell? ⟨B, 1, none⟩ = some y ∧ B < a.heap.size ∧ Below w.heap.size w a := ⟨h 0 _ rfl, h 1 _ rfl, h.lt, k⟩
theorem grown_cell (w : World) (a : Addr) (u : Value) : w.grownBy (w.setCell a u) (some a.block) :=
  ⟨rfl, rfl, rfl, by simp, fun k _ hk => Below.heap_setCell w a u k (fun e => hk (by rw [e]))⟩
theorem grown_trans {a b c : World} {r : Option Nat} (h : a.grownBy b r) (k : b.grownBy c r) : a.grownBy c r :=
  ⟨k.os.trans h.os, k.tape.trans h.tape, k.output.trans h.output, Nat.le_trans h.size k.size, fun i hi hr => (k.block i (Nat.lt_of_lt_of_le hi h.size) hr).trans (h.block i hi hr)⟩
theorem grown_below {a b c : World} {r : Option Nat} (h : a.grownBy b r) (k : Below b.heap.size b c) : a.grownBy c r := grown_trans h ⟨k.os, k.tape, k.output, k.size, fun i hi _ => k.block i hi⟩
theorem below_grown {a b : World} (h : Below a.heap.size a b) (r : Option Nat) : a.grownBy b r := grown_below ⟨rfl, rfl, rfl, Nat.le_refl _, fun _ _ _ => rfl⟩ h
theorem grown_set {a b : World} {B : Nat} (h : a.grownBy b (some B)) (o : Nat) (u : Value) : a.grownBy (b.setCell ⟨B, o, none⟩ u) (some B) := grown_trans h (grown_cell b ⟨B, o, none⟩ u)
theorem conv_new_at (w : World) (B : Nat) (hB : B = w.heap.size) (l : List UInt8) (cells : Array Value) (h : cells = (Lib.byteCells l).toArray) :
    (convert 113 9 (.slice (some ⟨B, 0, none⟩) l.length l.length)).run Tryz.prog (w.alloc (.cells cells 5)) = .ok (.string ⟨l.toArray⟩) (w.alloc (.cells cells 5)) := hB ▸ conv_new w l cells h
theorem new_frozen (w : World) (cells : Array Value) (t : TypeId) (B o : Nat) (hB : B = w.heap.size) : (w.alloc (.cells cells t)).frozen? ⟨B, o, none⟩ = false := by
  subst hB
  simp
theorem alloc_frozen (w : World) (ob : Obj) (B o : Nat) (h : B < w.heap.size) : (w.alloc ob).frozen? ⟨B, o, none⟩ = w.frozen? ⟨B, o, none⟩ := ((Below.refl _ w).alloc (Nat.le_refl _) ob).frozen (p := ⟨B, o, none⟩) h
end Go.Proofs.YteabkmelnoefiaaGreatDoor
namespace Go.Proofs
open Go.Shelf
def Tryz.laysM316_ren : Go.Shelf.Ren := ⟨fun | 316 => 73 | n => n, fun | 9 => 9 | 3 => 3 | 4 => 4 | 37 => 113 | 0 => 0 | 127 => 160 | 5 => 5 | n => n, fun | n => n⟩
theorem Tryz.laysM316 : Go.Proofs.LaysM.n316 Tryz.prog Tryz.laysM316_ren := {
  mixed := by kernel_rfl
  f316 := Tryz.func73.trans (congrArg some (by kernel_rfl))
  t0 := Tryz.underlying0
  a0 := Tryz.isAgg0
  z0 := Tryz.sizeOf0
  v0 := Tryz.zeroValue0
  t3 := Tryz.underlying3
  a3 := Tryz.isAgg3
  z3 := Tryz.sizeOf3
  v3 := Tryz.zeroValue3
  t4 := Tryz.underlying4
  a4 := Tryz.isAgg4
  z4 := Tryz.sizeOf4
  v4 := Tryz.zeroValue4
  t9 := Tryz.underlying9
  a9 := Tryz.isAgg9
  z9 := Tryz.sizeOf9
  v9 := Tryz.zeroValue9
  t37 := Tryz.underlying113
  a37 := Tryz.isAgg113
  z37 := Tryz.sizeOf113
  v37 := Tryz.zeroValue113
  t127 := Tryz.underlying160
  a127 := Tryz.isAgg160
  z127 := Tryz.sizeOf160
  v127 := Tryz.zeroValue160
  t5 := Tryz.underlying5
  a5 := Tryz.isAgg5
  z5 := Tryz.sizeOf5
  v5 := Tryz.zeroValue5
  i0 := by kernel_rfl
  i3 := by kernel_rfl
  i4 := by kernel_rfl
  i5 := by kernel_rfl
  i9 := by kernel_rfl
  i37 := by kernel_rfl
  i127 := by kernel_rfl }
open Go.RowKit in
/-- A clone of a string holds the same bytes; of what was there nothing has changed. -/
theorem Tryz.stringslite_Clone (s : ByteArray) (w : World) (hlim : s.size ≤ 281474976710656) :
    Calls Tryz.prog 73 #[.string s] w fun e w' => e = .returned (.string s) ∧ Below w.heap.size w w' := Any.stringslite_Clone Tryz.laysM316 s w hlim
end Go.Proofs
namespace Go.Proofs.YteabkmelnoefiaaGreatDoor
open Go.RowKit
set_option maxHeartbeats 400000 in
theorem clone_any (s : ByteArray) (w : World) (hs : s.size ≤ 281474976710656) : Calls Tryz.prog 50 #[.string s] w fun e w' => e = .returned (.string s) ∧ Below w.heap.size w w' := by
  go_enter Tryz.func50, Tryz.ntmps50
  go_wp2_with (go_at_call 73; refine (Tryz.stringslite_Clone _ _ hs).mono ?_; rintro e w1 ⟨rfl, hb⟩)
  go_ret
  exact ⟨rfl, hb⟩
end Go.Proofs.YteabkmelnoefiaaGreatDoor
namespace Go.Proofs.YteabkmelnoefiaaGreatDoor
open Go.RowKit
theorem in_opts (z z2 : Int) (d e : List UInt8) (W : World) : (Op.equalIn 10000 82 (.agg #[.int .i64 z, .string ⟨d.toArray⟩]) (.agg #[.int .i64 z2, .string ⟨e.toArray⟩])).run Tryz.prog W = .ok (z == z2 && d == e) W := by
  have h1 : Tryz.prog.underlying 82 = some (.struct (Tryz.prog.fieldsOf 82)) := by kernel_rfl
  have h2 : Tryz.prog.stoodInHeld 82 = false := by kernel_rfl
  rw [show (10000 : Nat) = 9998 + 1 + 1 from rfl, run_equalIn_agg W _ _ _ _ h1 h2]
  simp [go_sem, Tryz.underlying82, Tryz.underlying3, Tryz.underlying9]
  by_cases h : z = z2 <;> by_cases h2 : d = e <;> simp [h, h2]
/-- What a walk wants of a comparison: the guard, the comparison, what it is made of. -/
def EqO (x y : Value) (r : Bool) : Prop := (∀ W : World, (Op.equalIn 10000 82 x y).run Tryz.prog W = .ok r W) ∧ (∀ W : World, (binOp .neq 82 x y).run Tryz.prog W = .ok (.bool (!r)) W) ∧
  (∀ W : World, (binOp .eql 82 x y).run Tryz.prog W = .ok (.bool r) W)
theorem eqO_any (z z2 : Int) (d e : List UInt8) : EqO (.agg #[.int .i64 z, .string ⟨d.toArray⟩]) (.agg #[.int .i64 z2, .string ⟨e.toArray⟩]) (z == z2 && d == e) := by
  refine ⟨fun W => in_opts z z2 d e W, fun W => ?_, fun W => ?_⟩
  · rw [run_neq_struct, in_opts z z2 d e W]; rfl
  · rw [run_eql_struct, in_opts z z2 d e W]; rfl
theorem eqO_yes (z : Int) (d : List UInt8) : EqO (.agg #[.int .i64 z, .string ⟨d.toArray⟩]) (.agg #[.int .i64 z, .string ⟨d.toArray⟩]) true := by
  have h := eqO_any z z d d
  simpa using h
theorem eqO_no (z z2 : Int) (d e : List UInt8) (h : (z, d) ≠ (z2, e)) : EqO (.agg #[.int .i64 z, .string ⟨d.toArray⟩]) (.agg #[.int .i64 z2, .string ⟨e.toArray⟩]) false := by
  have h2 := eqO_any z z2 d e
  have : (z == z2 && d == e) = false := by
    cases hq : (z == z2 && d == e) with
    | false => rfl
    | true =>
      simp only [Bool.and_eq_true, beq_iff_eq] at hq
      exact absurd (by rw [hq.1, hq.2]) h
  rwa [this] at h2
theorem guardO : Tryz.prog.eqGuardType Tryz.prog.depth 82 = false := by kernel_rfl
end Go.Proofs.YteabkmelnoefiaaGreatDoor
namespace Go.Proofs.YteabkmelnoefiaaGreatDoor
open Go.RowKit
theorem takeO_succ {ls : List Opt.Op} (k : Nat) (h : k < ls.length) : ls.take (k + 1) = ls.take k ++ [ls[k]] := List.take_succ_eq_append_getElem h
set_option maxHeartbeats 400000 in
theorem sameO_any (va vb : Value) (la lb : List Opt.Op) (W : World) (ha : ReadsO W va la) (hb : ReadsO W vb lb) (hla : la.length ≤ 4611686018427387904) (hlb : lb.length ≤ 4611686018427387904) :
    Calls Tryz.prog 46 #[va, vb] W fun e w' => e = .returned (.bool (decide (la = lb))) ∧ Below W.heap.size W w' := by
  obtain ⟨p, cap, b, off, rfl, _, _, hi, hc⟩ := ha.at
  obtain ⟨q, cap2, b2, off2, rfl, _, _, hi2, hc2⟩ := hb.at
  have HI := Lib.hid hi
  have HC := Lib.hid hc
  have HI2 := Lib.hid hi2
  have HC2 := Lib.hid hc2
  clear hi hc hi2 hc2 ha hb
  by_cases hl : la.length = lb.length
  · have q1 : ((la.length : Int) != (lb.length : Int)) = false := by rw [bne_eq_false_iff_eq]; omega
    have HL := Lib.hid hl
    clear hl
    go_enter Tryz.func46, Tryz.ntmps46
    go_wp2_with fail
    go_loopw [5] (fun i wr => ∃ k : Nat, k ≤ la.length ∧ i = .int .i64 k ∧ la.take k = lb.take k ∧ Below W.heap.size W wr) (fun i _ => la.length - (intOf i).toNat)
    case atStart => exact ⟨0, by omega, rfl, rfl, Below.refl _ _⟩
    case round =>
      obtain ⟨k, hk, rfl, ht, hb⟩ := hrel
      have HT := Lib.hid ht
      have HB := Lib.hid hb
      clear ht hb
      by_cases hlt : k < la.length
      · have hlt2 : k < lb.length := by have := HL.out; omega
        have hi := HI.out k hlt
        have hi2 := HI2.out k hlt2
        obtain ⟨c0, c1⟩ := HC.out k hlt
        obtain ⟨d0, d1⟩ := HC2.out k hlt2
        rw [← HB.out.cell (block_lt_of_cell c0)] at c0
        rw [← HB.out.cell (block_lt_of_cell c1)] at c1
        rw [← HB.out.cell (block_lt_of_cell d0)] at d0
        rw [← HB.out.cell (block_lt_of_cell d1)] at d1
        have HS := Lib.hid (takeO_succ k hlt)
        have HS2 := Lib.hid (takeO_succ k hlt2)
        have HX : Hid (la = lb → la[k] = lb[k]) := Lib.hid (by rintro rfl; rfl)
        generalize la[k] = x at *
        generalize lb[k] = y at *
        obtain ⟨o8, ho8⟩ : ∃ o8, o8 = off + 2 * k := ⟨_, rfl⟩
        obtain ⟨o9, ho9⟩ : ∃ o9, o9 = off2 + 2 * k := ⟨_, rfl⟩
        rw [← ho8] at hi c0 c1
        rw [← ho9] at hi2 d0 d1
        clear ho8 ho9
        obtain ⟨z, d⟩ := x
        obtain ⟨z2, e⟩ := y
        dsimp only at c0 c1 d0 d1
        have hgu := guardO
        by_cases hxy : (z, d) = (z2, e)
        · obtain ⟨rfl, rfl⟩ := Prod.mk.inj hxy
          obtain ⟨k1, k2, _⟩ := eqO_yes z d
          go_wp2_with fail
          go_quiet (fail)
          obtain ⟨wq, hwq⟩ : ∃ wq, wq = wr.drewN nq := ⟨_, rfl⟩
          have HB1 := Lib.hid (HB.out.trans (hwq ▸ below_drewN (Below.refl _ _) nq))
          rw [← hwq]
          clear hwq c0 c1 d0 d1 k1 k2
          go_wp2_with fail
          go_roundw
          case rel => exact ⟨k + 1, by omega, by go_num, by rw [HS.out, HS2.out, HT.out], HB1.out⟩
          case measure => simp [intOf]; omega
        · obtain ⟨k1, k2, _⟩ := eqO_no z z2 d e hxy
          have HF : Hid (decide (la = lb) = false) := Lib.hid (decide_eq_false (fun e => hxy (HX.out e)))
          clear hxy
          go_wp2_with fail
          go_quiet (fail)
          obtain ⟨wq, hwq⟩ : ∃ wq, wq = wr.drewN nq := ⟨_, rfl⟩
          have HB1 := Lib.hid (HB.out.trans (hwq ▸ below_drewN (Below.refl _ _) nq))
          rw [← hwq]
          clear hwq c0 c1 d0 d1 k1 k2
          go_wp2_with fail
          go_ret
          exact ⟨ret_bool HF.out.symm, HB1.out⟩
      · obtain rfl : k = la.length := by omega
        have HF : Hid (decide (la = lb) = true) := by
          have h := HT.out
          rw [List.take_length, HL.out, List.take_length] at h
          exact Lib.hid (decide_eq_true h)
        go_wp2_with fail
        go_ret
        exact ⟨ret_bool HF.out.symm, HB.out⟩
  · have q1 : ((la.length : Int) != (lb.length : Int)) = true := by rw [bne_iff_ne]; omega
    have HF : Hid (decide (la = lb) = false) := Lib.hid (decide_eq_false (fun e => hl (by rw [e])))
    clear hl
    go_enter Tryz.func46, Tryz.ntmps46
    go_wp2_with fail
    go_ret
    exact ⟨ret_bool HF.out.symm, Below.refl _ _⟩
end Go.Proofs.YteabkmelnoefiaaGreatDoor
