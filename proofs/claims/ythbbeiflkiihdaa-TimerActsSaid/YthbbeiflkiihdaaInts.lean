/-
  General: slices of integers, that came in or of the call's own: read, made, pushed behind, written.
-/
import Derived.Test.YthbbeiflkiihdaaOwn
import Derived.Laws.AppendOwnNone
import Derived.Laws.OwnMore
import Derived.Laws.MakeOwn
import Derived.Maps.AppendAt
import Derived.RegionTactic
namespace Go.Proofs.Ythbbeiflkiihdaa
open Go.RowKit
theorem infoI : (Try.prog.info? 3).map (fun i => (i.zero, i.size, i.bytes)) = some (some (.int .i64 0), 1, 8) := by kernel_rfl
def cellsI (zs : List Int) : List Value := zs.map fun z => .int .i64 z
theorem cellsI_append (l r : List Int) : cellsI (l ++ r) = cellsI l ++ cellsI r := by simp [cellsI]
theorem cellsI_length (l : List Int) : (cellsI l).length = l.length := by simp [cellsI]
theorem cellsI_one (l : List Int) : ∀ u ∈ cellsI l, u.oneCell' = true := by
  intro u hu
  simp only [cellsI, List.mem_map] at hu
  obtain ⟨z, _, rfl⟩ := hu
  rfl
theorem cellsI_at (l : List Int) (k : Nat) (h : k < l.length) : (cellsI l)[k]? = some (.int .i64 l[k]) := by simp [cellsI, h]
theorem cellsI_of (l : List Int) (P : Nat → Value → Prop) (h : ∀ k (h : k < l.length), P k (.int .i64 l[k])) : ∀ j u, (cellsI l)[j]? = some u → P j u := by
  intro j u hj
  have hlt := (List.getElem?_eq_some_iff.1 hj).1
  rw [cellsI_length] at hlt
  rw [cellsI_at l j hlt] at hj
  cases hj
  exact h j hlt
theorem cellsI_set (l : List Int) (k : Nat) (z : Int) : cellsI (l.set k z) = (cellsI l).set k (.int .i64 z) := by simp [cellsI, List.map_set]
theorem add_at (b off j : Nat) : (⟨b, off, none⟩ : Addr).add j = ⟨b, off + j, none⟩ := by unfold Addr.add; split <;> simp_all
/-- 'v' is a slice that reads as these integers. -/
def ReadsI (W : World) (v : Value) (zs : List Int) : Prop := (zs = [] ∧ ((∃ a cap, v = .slice (some a) 0 cap) ∨ v = .slice none 0 0)) ∨
  ∃ b off cap, v = .slice (some ⟨b, off, none⟩) zs.length cap ∧ zs.length ≤ cap ∧ ∀ j u, (cellsI zs)[j]? = some u → W.cell? ⟨b, off + j, none⟩ = some u
theorem ReadsI.below {W W' : World} {v : Value} {zs : List Int} (h : ReadsI W v zs) (hb : Below W.heap.size W W') : ReadsI W' v zs := by
  rcases h with h | ⟨b, off, cap, e, hl, hc⟩
  · exact .inl h
  · exact .inr ⟨b, off, cap, e, hl, fun j u hj => (hb.cell (block_lt_of_cell (hc j u hj))).trans (hc j u hj)⟩
theorem ReadsI.drew {W : World} {v : Value} {zs : List Int} (h : ReadsI W v zs) : ReadsI W.drew v zs := h
theorem intI_index (b off n cap k : Nat) (hk : k < n) (W : World) : (Instr.indexAt 37 (.slice (some ⟨b, off, none⟩) n cap) (.int .i64 (k : Int))).run Try.prog W = .ok (.pointer (some ⟨b, off + k, none⟩)) W := by
  have hs : (sizeOf (Try.prog.elem 37)).run Try.prog W = .ok 1 W := Try.sizeOf3 W
  have e := run_indexAt_slice (P := Try.prog) W 37 ⟨b, off, none⟩ n cap .i64 (k : Int) Try.underlying37
  rw [if_pos (by omega), hs] at e
  simp only [Result.andThen, Int.toNat_natCast] at e
  rw [e, Nat.mul_one, add_at]
/-- As the walks take it. -/
theorem ReadsI.at {W : World} {v : Value} {zs : List Int} (h : ReadsI W v zs) : ∃ (p : Option Addr) (cap b off : Nat), v = .slice p zs.length cap ∧ zs.length ≤ cap ∧ (0 < zs.length → p = some ⟨b, off, none⟩) ∧
    (∀ k, k < zs.length → ∀ W' : World, (Instr.indexAt 37 (.slice p zs.length cap) (.int .i64 (k : Int))).run Try.prog W' = .ok (.pointer (some ⟨b, off + k, none⟩)) W') ∧
    ∀ k (h : k < zs.length), W.cell? ⟨b, off + k, none⟩ = some (.int .i64 zs[k]) := by
  rcases h with ⟨rfl, ⟨a, cap, rfl⟩ | rfl⟩ | ⟨b, off, cap, rfl, hl, hc⟩
  · exact ⟨_, cap, 0, 0, rfl, by simp, fun h => absurd h (by simp), fun k hk => absurd hk (by simp), fun k hk => absurd hk (by simp)⟩
  · exact ⟨_, 0, 0, 0, rfl, by simp, fun h => absurd h (by simp), fun k hk => absurd hk (by simp), fun k hk => absurd hk (by simp)⟩
  · exact ⟨_, cap, b, off, rfl, hl, fun _ => rfl, fun k hk W' => intI_index b off _ cap k hk W', fun k hk => hc _ _ (cellsI_at zs k hk)⟩
theorem ReadsI.form {W : World} {v : Value} {zs : List Int} (h : ReadsI W v zs) : ∃ p cap, v = .slice p zs.length cap := by
  obtain ⟨p, cap, _, _, e, _⟩ := h.at
  exact ⟨p, cap, e⟩
theorem readsI_nil (W : World) : ReadsI W (.slice none 0 0) [] := .inl ⟨rfl, .inr rfl⟩
/-- A block just laid reads as the integers that were laid. -/
theorem readsI_lit (W : World) (n : Nat) (hn : W.heap.size = n) (zs : List Int) (C : Array Value) (h : C = (cellsI zs).toArray) : ReadsI (W.alloc (.cells C 3)) (.slice (some ⟨n, 0, none⟩) zs.length zs.length) zs := by
  subst h hn
  refine .inr ⟨_, _, _, rfl, Nat.le_refl _, fun j u hj => ?_⟩
  have := new_cells W (cellsI zs) 3 j u hj
  rwa [add_at] at this
/-- 'v' is a slice of integers of the call's own (the call began in 'w'), it holds 'zs'; nothing that was there has changed. -/
def OwnsI (w wr : World) (v : Value) (zs : List Int) : Prop := wr.ownsRow w.heap.size 3 1 v zs.length (cellsI zs) ∧ Below w.heap.size w wr
theorem OwnsI.nil (w : World) : OwnsI w w (.slice none 0 0) [] := ⟨World.ownsRow_nil _ _ _ _, Below.refl _ _⟩
theorem OwnsI.below {w W W' : World} {v : Value} {zs : List Int} (h : OwnsI w W v zs) (hb : Below W.heap.size W W') : OwnsI w W' v zs :=
  ⟨h.1.kept (row := none) ⟨hb.os, hb.tape, hb.output, hb.size, fun k hk _ => hb.block k hk⟩ (by cases hv : v.ownBlock <;> simp), h.2.trans (hb.mono h.2.size)⟩
theorem OwnsI.drew {w W : World} {v : Value} {zs : List Int} (h : OwnsI w W v zs) : OwnsI w W.drew v zs := ⟨h.1, h.2.drew⟩
theorem OwnsI.reads {w W : World} {v : Value} {zs : List Int} (h : OwnsI w W v zs) : ReadsI W v zs := by
  have hc := fun g hg => h.1.cells (g := g) hg
  rcases h.1.2 with ⟨rfl, h0⟩ | ⟨g, cap, cur, rfl, _, _, hn, _⟩
  · obtain rfl : zs = [] := List.length_eq_zero_iff.1 h0
    exact readsI_nil W
  · refine .inr ⟨g, 0, cap, rfl, hn, fun j u hj => ?_⟩
    have := hc g rfl j u hj
    rwa [add_at] at this
/-- Seen from an earlier world. -/
theorem OwnsI.base {w0 w W : World} {v : Value} {zs : List Int} (h : OwnsI w W v zs) (hb : Below w0.heap.size w0 w) : OwnsI w0 W v zs := by
  refine ⟨⟨h.1.1, ?_⟩, bel2 hb h.2⟩
  have hs := hb.size
  rcases h.1.2 with ⟨h1, h2⟩ | ⟨g, cap, cur, h1, h2, h3⟩
  · exact .inl ⟨h1, h2⟩
  · exact .inr ⟨g, cap, cur, h1, Nat.le_trans hs h2, h3⟩
theorem OwnsI.form {w W : World} {v : Value} {zs : List Int} (h : OwnsI w W v zs) (hn : 0 < zs.length) : ∃ g cap, v = .slice (some ⟨g, 0, none⟩) zs.length cap ∧ zs.length ≤ cap ∧ w.heap.size ≤ g ∧ g < W.heap.size := by
  rcases h.1.2 with ⟨_, h0⟩ | ⟨g, cap, cur, hv, hb, hg, hl, _⟩
  · omega
  · refine ⟨g, cap, hv, hl, hb, ?_⟩
    rcases Nat.lt_or_ge g W.heap.size with hlt | hge
    · exact hlt
    · rw [Array.getElem?_eq_none hge] at hg; cases hg
/-- An empty slice that was just made. -/
theorem OwnsI.made (w : World) : OwnsI w (w.alloc (.cells #[] 3)) (.slice (some ⟨w.heap.size, 0, none⟩) 0 0) [] := by
  refine ⟨⟨rfl, .inr ⟨w.heap.size, 0, #[], rfl, Nat.le_refl _, ?_, Nat.le_refl _, by unfold maxLen; omega, rfl, rfl⟩⟩, (Below.refl _ _).alloc (Nat.le_refl _) _⟩
  exact heap_alloc_new _ _
/-- A slice of so many integers, just laid. -/
theorem OwnsI.laid (w : World) (n : Nat) (hn : w.heap.size = n) (zs : List Int) (hl : zs.length ≤ 100000) (C : Array Value) (h : C = (cellsI zs).toArray) : OwnsI w (w.alloc (.cells C 3)) (.slice (some ⟨n, 0, none⟩) zs.length zs.length) zs := by
  subst h hn
  refine ⟨⟨by simp [cellsI], .inr ⟨w.heap.size, zs.length, (cellsI zs).toArray, rfl, Nat.le_refl _, heap_alloc_new _ _, Nat.le_refl _, by unfold maxLen; omega, by simp [cellsI], by simp [cellsI, ← List.map_take]⟩⟩, (Below.refl _ _).alloc (Nat.le_refl _) _⟩
/-- One of its integers is written over. -/
theorem OwnsI.set {w W : World} {g cap : Nat} {zs : List Int} (h : OwnsI w W (.slice (some ⟨g, 0, none⟩) zs.length cap) zs) (hg : w.heap.size ≤ g) (k : Nat) (z : Int) :
    OwnsI w (W.setCell ⟨g, k, none⟩ (.int .i64 z)) (.slice (some ⟨g, 0, none⟩) zs.length cap) (zs.set k z) := by
  refine ⟨?_, h.2.setCell hg _⟩
  have := (h.1.stored k (.int .i64 z)).1
  rw [cellsI_set, List.length_set]
  exact this
/-- Whatever reads as integers, pushed behind a slice of the call's own: at the operation. -/
theorem one_catI {o : Oper} {a : Act} {K : Act → World → Prop} {Q : Exit → Act → World → Prop} (sl x : Operand)
    (ho : o.op = .call { callee := .builtin .append, args := #[sl, x], argTypes := #[37, 37] })
    {W w : World} (zs r : List Int) {v vx : Value} (hown : OwnsI w W v zs) (hr : ReadsI W vx r)
    (hs : a.eval sl = v) (hx : a.eval x = vx) (hl : (zs.length + r.length) * 8 ≤ 140737488355328)
    (h : ∀ v' w', OwnsI w w' v' (zs ++ r) → K (a.put o.dst v') w') : o.wp Try.prog a W K Q := by
  obtain ⟨i0, hi, hz0, hz1, hz2⟩ := info_parts infoI
  obtain ⟨hown, hb⟩ := hown
  have hsz := hb.size
  have hfin : ∀ v' w' n, n = r.length → w'.ownsRow w.heap.size 3 1 v' (zs.length + n) (cellsI zs ++ cellsI r) → W.grownBy w' v.ownBlock → K (a.put o.dst v') w' := by
    intro v' w' n hn hown' hgrow
    subst hn
    refine h v' w' ⟨?_, ?_⟩
    · rw [cellsI_append, List.length_append]; exact hown'
    · exact hb.grown hgrow hsz (fun k hk => (hown.lt k hk).1)
  have hcat : ∀ (ad : Addr) (cap : Nat), vx = .slice (some ad) r.length cap → (∀ j u, (cellsI r)[j]? = some u → W.cell? (ad.add j) = some u) → o.wp Try.prog a W K Q := by
    intro ad cap e hc
    subst e
    exact wp_append_own _ sl x 37 ho w.heap.size 3 i0 (.int .i64 0) 1 8 Try.underlying37 hi hz0 hz1 hz2 rfl (by decide) v zs.length (cellsI zs) hs hown ad r.length cap (cellsI r) hx (by simp [cellsI]) hc (cellsI_one r) (by unfold maxLen; omega) hl hsz
      fun v' w' h1 h2 _ => hfin v' w' _ rfl h1 h2
  rcases hr with ⟨rfl, ⟨ad, cap, rfl⟩ | rfl⟩ | ⟨b, off, cap, rfl, hle, hc⟩
  · exact hcat ad cap rfl fun j u hj => by simp [cellsI] at hj
  · have hrun := run_append_owned_none (P := Try.prog) (w := W) w.heap.size 37 o.type 3 i0 1 Try.underlying37 hi v zs.length (cellsI zs) hown
    have h0 := h v W ⟨by rw [List.append_nil]; exact hown, hb⟩
    unfold Oper.wp
    simp [execOp, ho, resolve, invoke, builtin, hs, hx, hrun, Result.andThen]
    exact h0
  · refine hcat _ cap rfl fun j u hj => ?_
    rw [add_at]
    exact hc j u hj
/-- .. in a plain region's list: the arm is (at_builtin; refine wp_catI rfl _ _ rfl zs r hown hr rfl rfl hlen ?_; intro v' w2 hown2). -/
theorem wp_catI {ops : Array Oper} {rest : List Oper} {o : Oper} {a : Act} {Q : Exit → Act → World → Prop} (hgd : o.guard = none) (sl x : Operand)
    (ho : o.op = .call { callee := .builtin .append, args := #[sl, x], argTypes := #[37, 37] })
    {W w : World} (zs r : List Int) {v vx : Value} (hown : OwnsI w W v zs) (hr : ReadsI W vx r)
    (hs : a.eval sl = v) (hx : a.eval x = vx) (hl : (zs.length + r.length) * 8 ≤ 140737488355328)
    (h : ∀ v' w', OwnsI w w' v' (zs ++ r) → wpList Try.prog ops Q rest (a.put o.dst v') w') :
    wpList Try.prog ops Q (o :: rest) a W :=
  wpList_plain hgd fun _ hK => one_catI sl x ho zs r hown hr hs hx hl fun v' w' h2 => hK _ _ (h v' w' h2)
/-- .. at a step of a region that draws: go_region_law (refine step_catI rfl _ _ rfl zs r hown hr rfl rfl hlen ?_; intro v' w2 hown2). -/
theorem step_catI {ops : Array Oper} {o : Oper} {a : Act} {K : Act → World → Prop} {Q : Exit → Act → World → Prop} {E : Prop} (hgd : o.guard = none) (sl x : Operand)
    (ho : o.op = .call { callee := .builtin .append, args := #[sl, x], argTypes := #[37, 37] })
    {W w : World} (zs r : List Int) {v vx : Value} (hown : OwnsI w W v zs) (hr : ReadsI W vx r)
    (hs : a.eval sl = v) (hx : a.eval x = vx) (hl : (zs.length + r.length) * 8 ≤ 140737488355328)
    (h : ∀ v' w', OwnsI w w' v' (zs ++ r) → K (a.put o.dst v') w') :
    if Region.wanted o (yielded ops a.tmps) = true then Oper.wp Try.prog o a W K Q else E := by
  have hw : Region.wanted o (yielded ops a.tmps) = true := by simp [Region.wanted, hgd]
  rw [if_pos hw]
  exact one_catI sl x ho zs r hown hr hs hx hl h
/-- So many new integers. -/
theorem make_ints (k : Nat) (h : k ≤ 100000) (W : World) : (Instr.makeSlice 37 (.int .i64 (k : Int)) (.int .i64 (k : Int))).run Try.prog W = .ok (.slice (some ⟨W.heap.size, 0, none⟩) k k) (W.alloc (.cells (cellsI (List.replicate k 0)).toArray 3)) := by
  have hi := infoI
  cases hq : Try.prog.info? 3 with
  | none => rw [hq] at hi; cases hi
  | some i =>
    rw [hq] at hi
    simp only [Option.map_some, Option.some.injEq, Prod.mk.injEq] at hi
    obtain ⟨hz, hs, hb⟩ := hi
    have := run_make (P := Try.prog) W 37 3 i (.int .i64 0) Try.underlying37 hq hz .i64 .i64 k k (by omega) (by omega) (by rw [hb]; omega) (by omega)
    rw [hs] at this
    simp only [Int.toNat_natCast, Nat.mul_one, Value.cells] at this
    have e : madeCells #[Value.int .i64 0] k = (cellsI (List.replicate k 0)).toArray := by
      apply Array.toList_inj.1
      apply List.ext_getElem
      · simp [cellsI, madeCells]
      · intro i h1 h2
        simp [madeCells, cellsI, Nat.mod_one]
    rw [e] at this
    exact this
theorem grown_self (w : World) (row : Option Nat) : w.grownBy w row := ⟨rfl, rfl, rfl, Nat.le_refl _, fun _ _ _ => rfl⟩
end Go.Proofs.Ythbbeiflkiihdaa
