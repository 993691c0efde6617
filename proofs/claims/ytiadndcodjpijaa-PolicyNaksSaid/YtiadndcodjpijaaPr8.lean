/-
  The program's rejected options: how often a kind was seen, in a map of the call's own; what is bad.
-/
import Derived.Test.YtiadndcodjpijaaPr7
import Derived.Maps.OwnOps
import Derived.Maps.Views
import Derived.Deep.Onto
namespace Go.Proofs.Ytiadndcodjpijaa.Pr
open Go.RowKit Go.Maps
/-- How often a kind stands there. -/
def cnt (z : Int) (l : List Opt.Op) : Nat := l.countP fun o => o.1 == z
theorem cnt_snoc (y z : Int) (d : List UInt8) (l : List Opt.Op) : cnt y (l ++ [(z, d)]) = if z = y then cnt y l + 1 else cnt y l := by
  unfold cnt
  rw [List.countP_append]
  by_cases h : z = y
  · simp [h]
  · simp [h]
theorem cnt_any (z : Int) (l : List Opt.Op) : decide ((0 : Int) < (cnt z l : Int)) = l.any (fun o => o.1 == z) := by
  rw [Bool.eq_iff_iff, decide_eq_true_eq, List.any_eq_true]
  have h : 0 < cnt z l ↔ ∃ a, a ∈ l ∧ (a.1 == z) = true := List.countP_pos_iff
  rw [← h]
  omega
theorem cnt_le (z : Int) (l : List Opt.Op) : cnt z l ≤ l.length := List.countP_le_length
theorem lawI : Keyed Try.prog 3 := int_keyed Try.underlying3
theorem zeroI (w : World) : (zeroValue 3).run Try.prog w = .ok (.int .i64 0) w := by kernel_rfl
theorem key_lit (z : Int) : WideAt.IsKeyLit (.int .i64 z) := by simp [WideAt.IsKeyLit]
/-- What the walk of 'rejected' holds: the row of rules in its box, the map, the slice that is made. -/
structure Seen (w W : World) (B : Nat) (v : Value) (acc : List Opt.Op) (n : Nat) (l : List Opt.Op) : Prop where
  base : Below w.heap.size w W
  side : Arr w.heap.size W (scs B)
  room : w.heap.size + 2 ≤ W.heap.size
  own : W.ownsRow (w.heap.size + 2) 36 2 v acc.length (cellsO acc)
  map : ∃ D : DataW Unit, W.ownsMap Try.prog 3 (plainElem Try.prog 3) (w.heap.size + 1) n D ∧ IsMap D ∧ ∀ z, D.atKey (.int .i64 z) (.lit (.int .i64 0)) = .lit (.int .i64 (cnt z l : Int))
theorem Seen.below {w W W' : World} {B n : Nat} {v : Value} {acc l : List Opt.Op} (h : Seen w W B v acc n l) (k : Below W.heap.size W W') : Seen w W' B v acc n l := by
  obtain ⟨D, h1, h2, h3⟩ := h.map
  have g : W.grownBy W' none := ⟨k.os, k.tape, k.output, k.size, fun i hi _ => k.block i hi⟩
  exact ⟨bel2 h.base k, h.side.below k, Nat.le_trans h.room k.size, h.own.kept g (by cases v.ownBlock <;> simp), D, h1.kept g (by simp), h2, h3⟩
theorem Seen.own1 {w W : World} {B n : Nat} {v : Value} {acc l : List Opt.Op} (h : Seen w W B v acc n l) : OwnsO w W v acc := ⟨h.own.mono (by omega), h.base⟩
theorem lit_one (W : World) (z : Int) (d : List UInt8) : ∀ j y, (cellsO [(z, d)])[j]? = some y → (W.alloc (.cells #[.int .i64 z, .string ⟨d.toArray⟩] 36)).cell? ((⟨W.heap.size, 0, none⟩ : Addr).add j) = some y := fun j y hj => new_cells W (cellsO [(z, d)]) 36 j y hj
theorem one_catS {o : Oper} {a : Act} {K : Act → World → Prop} {Q : Exit → Act → World → Prop} (sl x : Operand)
    (ho : o.op = .call { callee := .builtin .append, args := #[sl, x], argTypes := #[25, 25] })
    {W w : World} {B n : Nat} {v : Value} {acc l : List Opt.Op} (c : Opt.Op) (ad : Addr) (cap : Nat) (hS : Seen w W B v acc n l) (hc : ∀ j y, (cellsO [c])[j]? = some y → W.cell? (ad.add j) = some y)
    (hs : a.eval sl = v) (hx : a.eval x = .slice (some ad) 1 cap) (hl : (acc.length + 1) * 24 ≤ 140737488355328)
    (h : ∀ v' w', Seen w w' B v' (acc ++ [c]) n l → W.grownBy w' v.ownBlock → K (a.put o.dst v') w') : o.wp Try.prog a W K Q := by
  obtain ⟨i0, hi, hz0, hz1, hz2⟩ := info_parts infoO
  refine wp_append_own _ sl x 25 ho (w.heap.size + 2) 36 i0 (.agg #[.int .i64 0, .string ⟨#[]⟩]) 2 24 Try.underlying25 hi hz0 hz1 hz2 rfl (by decide) v acc.length (cellsO acc) hs hS.own ad 1 cap (cellsO [c]) hx (cellsO_length [c]) hc (cellsO_one [c]) (by unfold maxLen; omega) hl hS.room
    fun v' w' h1 h2 _ => h v' w' ?_ h2
  have hlt := fun k (hk : v.ownBlock = some k) => (hS.own.lt k hk).1
  obtain ⟨D, m1, m2, m3⟩ := hS.map
  refine ⟨hS.base.grown h2 hS.base.size (fun k hk => by have := hlt k hk; omega), hS.side.grown h2 (fun e => by have := hlt _ e.symm; omega), Nat.le_trans hS.room h2.size, ?_, D, m1.kept h2 (fun e => by have := hlt _ e.symm; omega), m2, m3⟩
  rw [cellsO_append, List.length_append]
  exact h1
section
variable {ops : Array Oper} {rest : List Oper} {o : Oper} {a : Act} {Q : Exit → Act → World → Prop} {w W : World} {B n : Nat} {v : Value} {acc l : List Opt.Op}
theorem wp_catS (hgd : o.guard = none) (sl x : Operand)
    (ho : o.op = .call { callee := .builtin .append, args := #[sl, x], argTypes := #[25, 25] })
    (c : Opt.Op) (ad : Addr) (cap : Nat) (hS : Seen w W B v acc n l) (hc : ∀ j y, (cellsO [c])[j]? = some y → W.cell? (ad.add j) = some y)
    (hs : a.eval sl = v) (hx : a.eval x = .slice (some ad) 1 cap) (hl : (acc.length + 1) * 24 ≤ 140737488355328)
    (h : ∀ v' w', Seen w w' B v' (acc ++ [c]) n l → W.grownBy w' v.ownBlock → wpList Try.prog ops Q rest (a.put o.dst v') w') : wpList Try.prog ops Q (o :: rest) a W :=
  wpList_plain hgd fun _ hK => one_catS sl x ho c ad cap hS hc hs hx hl fun v' w' h2 h3 => hK _ _ (h v' w' h2 h3)
/-- The map asked, be the step guarded or not. -/
theorem step_seen (hw : Region.wanted o (yielded ops a.tmps) = true) (m x : Operand) (ho : o.op = .lookup 78 m x false) (hS : Seen w W B v acc n l) (z : Int) (c : Nat) (hcc : c = cnt z l) (hz : (Lit.int .i64 z).wf = true)
    (hm : a.eval m = .map (some (w.heap.size + 1))) (hx : a.eval x = .int .i64 z) (h : wpList Try.prog ops Q rest (a.put o.dst (.int .i64 (c : Int))) W) : wpList Try.prog ops Q (o :: rest) a W := by
  subst hcc
  refine wpList_step fun _ hK => ?_
  rw [if_pos hw]
  obtain ⟨D, m1, m2, m3⟩ := hS.map
  obtain ⟨c', hrun, hat, _⟩ := m1.lookup_int lawI Try.underlying78 Try.underlying3 (zeroI _) (keyOf_int_mk Try.underlying3 hz)
  have hc : c' = (cnt z l : Int) := by
    have e := (m3 z).symm.trans hat
    simpa using e.symm
  rw [hc] at hrun
  unfold Oper.wp
  simp [execOp, ho, hm, hx, hrun, Result.andThen]
  exact hK _ _ h
theorem step_pos (hw : Region.wanted o (yielded ops a.tmps) = true) (x : Operand) (ho : o.op = .binOp .gtr 3 x (.const (.int .i64 0)) 3) (c : Nat) (b : Bool) (hb : decide ((0 : Int) < (c : Int)) = b) (hx : a.eval x = .int .i64 (c : Int))
    (h : wpList Try.prog ops Q rest (a.put o.dst (.bool b)) w) : wpList Try.prog ops Q (o :: rest) a w := by
  refine wpList_step fun _ hK => ?_
  rw [if_pos hw]
  subst hb
  have hy : a.eval (.const (.int .i64 0)) = .int .i64 0 := rfl
  unfold Oper.wp execOp
  simp only [ho, hx, hy, Sem.run_bind, Sem.run_pure]
  exact hK _ _ h
theorem Seen.look (hS : Seen w W B v acc n l) (z : Int) (c : Nat) (hcc : c = cnt z l) (hz : (Lit.int .i64 z).wf = true) : (Instr.lookup 78 (.map (some (w.heap.size + 1))) (.int .i64 z) false).run Try.prog W = .ok (.int .i64 (c : Int)) W := by
  subst hcc
  obtain ⟨D, m1, m2, m3⟩ := hS.map
  obtain ⟨c', hrun, hat, _⟩ := m1.lookup_int lawI Try.underlying78 Try.underlying3 (zeroI _) (keyOf_int_mk Try.underlying3 hz)
  have hc : c' = (cnt z l : Int) := by
    have e := (m3 z).symm.trans hat
    simpa using e.symm
  rwa [hc] at hrun
/-- The kind counted. -/
theorem wp_count (hgd : o.guard = none) (m x y : Operand) (ho : o.op = .mapUpdate 78 m x y) (hS : Seen w W B v acc n l) (z : Int) (d : List UInt8) (c : Nat) (hcc : c = cnt z l) (hz : (Lit.int .i64 z).wf = true) (hn : n < 1000000000)
    (hm : a.eval m = .map (some (w.heap.size + 1))) (hx : a.eval x = .int .i64 z) (hy : a.eval y = .int .i64 ((c : Int) + 1)) (hcl : (Lit.int .i64 ((c : Int) + 1)).wf = true)
    (h : ∀ W', Seen w W' B v acc (n + 1) (l ++ [(z, d)]) → wpList Try.prog ops Q rest (a.put o.dst undef) W') : wpList Try.prog ops Q (o :: rest) a W := by
  subst hcc
  obtain ⟨D, m1, m2, m3⟩ := hS.map
  refine wpList_mapUpdate_own _ hgd m x y 78 ho 3 3 lawI Try.underlying78 _ (w.heap.size + 1) n D hm m1 (by unfold maxLen; omega) _ _ _ hx hy (keyOf_int_mk Try.underlying3 hz) _ [] (plainElem_int Try.underlying3 hcl) ?_
  intro W' h1 h2
  refine h W' ⟨hS.base.grown h2 hS.base.size (fun k hk => by cases hk; omega), hS.side.grown h2 (by simp), Nat.le_trans hS.room h2.size, hS.own.kept h2 ?_, _, h1, m2.put _ _, fun y => ?_⟩
  · cases hv : v.ownBlock with
    | none => exact .inl rfl
    | some k => exact .inr (fun e => by have := (hS.own.lt k hv).1; cases e; omega)
  · rw [cnt_snoc]
    by_cases e : z = y
    · subst e
      rw [atKey_put_same m2 (key_lit z), if_pos rfl]
      rfl
    · rw [atKey_put_other (fun e2 => e (by cases e2; rfl)), m3 y, if_neg e]
end
/-- What is bad of an option, as the program reckons it. -/
def badP (own : Pol.Lk) (o : Opt.Op) (l : List Opt.Op) : Bool := !decide (at' o.1 < 6) || (!fitAt (at' o.1) o.2 || (!grantsAt own (at' o.1) || decide ((0 : Int) < (cnt o.1 l : Int))))
theorem right_fit (o : Opt.Op) : Pol.right o = (decide (at' o.1 < 6) && fitAt (at' o.1) o.2) := by
  obtain ⟨z, d⟩ := o
  unfold Pol.right at'
  simp only
  by_cases h1 : z = 1
  · simp [h1, fitAt]
  by_cases h2 : z = 5
  · simp [h2, fitAt]
  by_cases h3 : z = 17
  · simp [h3, fitAt]
  by_cases h4 : z = 18
  · subst h4
    cases d <;> simp [fitAt]
  by_cases h5 : z = 19
  · subst h5
    cases d <;> simp [fitAt]
  by_cases h6 : z = 23
  · simp [h6, fitAt]
  · simp [h1, h2, h3, h4, h5, h6]
theorem bad_eq (own : Pol.Lk) (os : List Opt.Op) (k : Nat) : Pol.bad own os k = badP own (Pol.g os k) (os.take k) := by
  unfold Pol.bad badP Pol.twice
  rw [right_fit, cnt_any]
  generalize Pol.g os k = o
  obtain ⟨z, d⟩ := o
  have hg : (z == 18 && !own.short) = (!grantsAt own (at' z)) := by
    unfold at'
    by_cases h4 : z = 18
    · subst h4; rfl
    · have : (z == 18) = false := by simpa using h4
      rw [this, if_neg h4]
      repeat (first | rfl | split)
  simp only
  rw [hg]
  cases decide (at' z < 6) <;> cases fitAt (at' z) d <;> cases grantsAt own (at' z) <;> cases (List.take k os).any (fun o => o.1 == z) <;> rfl
end Go.Proofs.Ytiadndcodjpijaa.Pr
