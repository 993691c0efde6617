/-
  General: whatever reads as integers, none at all too, pushed behind a row of the call's own: what has changed, and where the new slice lies.
-/
import Derived.Test.YthbbeiflkiihdaaBlk
import Derived.Test.YthbbeiflkiihdaaWhere
import Derived.Laws.OwnMore
namespace Go.Proofs.Ythbbeiflkiihdaa
open Go.RowKit
theorem append_some_none {W : World} (base : Nat) (t ty e : TypeId) (i : TypeInfo) (size : Nat) (ht : Try.prog.underlying t = some (.slice e)) (hi : Try.prog.info? e = some i)
    (v : Value) (n : Nat) (xs : List Value) (hown : W.ownsRow base e size v n xs) (a : Addr) (c : Nat) : (Builtin.append_ #[t, t] ty #[v, .slice (some a) 0 c]).run Try.prog W = .ok v W := by
  rcases hown.2 with ⟨rfl, rfl⟩ | ⟨g, cap, cur, rfl, _, _, hnc, _⟩
  · simp [Builtin.append_, run_underlying ht, sizeOf, typeInfo, hi, Builtin.lenOf, Builtin.firstCells, loadCells, loadCellsFrom]
  · simp [Builtin.append_, run_underlying ht, sizeOf, typeInfo, hi, Builtin.lenOf, Builtin.firstCells, hnc, storeCells, loadCells, loadCellsFrom]
/-- What is left after the push. -/
structure Pushed (base : Nat) (W : World) (v : Value) (zs : List Int) (v' : Value) (w' : World) : Prop where
  row : w'.ownsRow base 3 1 v' zs.length (cellsI zs)
  grown : W.grownBy w' v.ownBlock
  lies : ∀ k, v'.ownBlock = some k → v.ownBlock = some k ∨ W.heap.size ≤ k
theorem one_catA {o : Oper} {a : Act} {K : Act → World → Prop} {Q : Exit → Act → World → Prop} (sl x : Operand)
    (ho : o.op = .call { callee := .builtin .append, args := #[sl, x], argTypes := #[37, 37] })
    {W : World} (base : Nat) (zs r : List Int) {v vx : Value} (hown : W.ownsRow base 3 1 v zs.length (cellsI zs)) (hsz : base ≤ W.heap.size) (hr : ReadsI W vx r)
    (hs : a.eval sl = v) (hx : a.eval x = vx) (hl : (zs.length + r.length) * 8 ≤ 140737488355328)
    (h : ∀ v' w', Pushed base W v (zs ++ r) v' w' → K (a.put o.dst v') w') : o.wp Try.prog a W K Q := by
  obtain ⟨i0, hi, hz0, hz1, hz2⟩ := info_parts infoI
  have hrun : ∃ v' w', (Builtin.append_ #[37, 37] o.type #[v, vx]).run Try.prog W = .ok v' w' ∧ Pushed base W v (zs ++ r) v' w' := by
    have hcat : ∀ (ad : Addr) (cap : Nat), r ≠ [] → vx = .slice (some ad) r.length cap → (∀ j u, (cellsI r)[j]? = some u → W.cell? (ad.add j) = some u) → ∃ v' w', (Builtin.append_ #[37, 37] o.type #[v, vx]).run Try.prog W = .ok v' w' ∧ Pushed base W v (zs ++ r) v' w' := by
      intro ad cap hne e hc
      subst e
      obtain ⟨v', w', hr, h2, h3, _⟩ := run_append_own (P := Try.prog) W base 37 o.type 3 i0 (.int .i64 0) 1 8 Try.underlying37 hi hz0 hz1 hz2 rfl (by decide) v zs.length (cellsI zs) hown ad r.length cap (cellsI r) (by simp [cellsI]) hc (cellsI_one r) (by unfold maxLen; omega) hl hsz
      have hown1 : W.ownsRow base 3 i0.size v zs.length (cellsI zs) := by rw [hz1]; exact hown
      have hw := append_where (P := Try.prog) base 37 o.type 3 i0 (.int .i64 0) Try.underlying37 hi hz0 v zs.length (cellsI zs) hown1 ad r.length cap (cellsI r) (List.length_pos_iff.2 hne) (by rw [hz1]; simp [cellsI]) hc (cellsI_one r) (by unfold maxLen; omega) (by rw [hz2]; exact hl) hr
      exact ⟨v', w', hr, by rw [List.length_append, cellsI_append]; exact h2, h3, hw⟩
    have hsame : r = [] → Pushed base W v (zs ++ r) v W := fun e => by
      subst e
      rw [List.append_nil]
      exact ⟨hown, grown_self W _, fun k hk => .inl hk⟩
    by_cases hne : r = []
    · have e0 : ∃ p cap, vx = .slice p 0 cap ∧ (p = none → cap = 0) := by
        subst hne
        rcases hr with ⟨_, ⟨ad, cap, rfl⟩ | rfl⟩ | ⟨b, off, cap, rfl, _⟩
        · exact ⟨_, _, rfl, fun e => by cases e⟩
        · exact ⟨_, _, rfl, fun _ => rfl⟩
        · exact ⟨_, _, rfl, fun e => by cases e⟩
      obtain ⟨p, cap, rfl, hp⟩ := e0
      cases p with
      | none =>
        rw [hp rfl]
        exact ⟨v, W, run_append_owned_none (P := Try.prog) (w := W) base 37 o.type 3 i0 1 Try.underlying37 hi v zs.length (cellsI zs) hown, hsame hne⟩
      | some ad => exact ⟨v, W, append_some_none base 37 o.type 3 i0 1 Try.underlying37 hi v zs.length (cellsI zs) hown ad cap, hsame hne⟩
    · rcases hr with ⟨h0, _⟩ | ⟨b, off, cap, rfl, hle, hc⟩
      · exact absurd h0 hne
      · refine hcat _ cap hne rfl fun j u hj => ?_
        rw [add_at]
        exact hc j u hj
  obtain ⟨v', w', hrun, hp⟩ := hrun
  unfold Oper.wp execOp
  simp only [ho, resolve, invoke, builtin, Sem.run_bind, Sem.run_pure, Result.andThen_ok, List.map_toArray, List.map_cons, List.map_nil, hs, hx, hrun]
  exact h v' w' hp
theorem wp_catA {ops : Array Oper} {rest : List Oper} {o : Oper} {a : Act} {Q : Exit → Act → World → Prop} (hgd : o.guard = none) (sl x : Operand)
    (ho : o.op = .call { callee := .builtin .append, args := #[sl, x], argTypes := #[37, 37] })
    {W : World} (base : Nat) (zs r : List Int) {v vx : Value} (hown : W.ownsRow base 3 1 v zs.length (cellsI zs)) (hsz : base ≤ W.heap.size) (hr : ReadsI W vx r)
    (hs : a.eval sl = v) (hx : a.eval x = vx) (hl : (zs.length + r.length) * 8 ≤ 140737488355328)
    (h : ∀ v' w', Pushed base W v (zs ++ r) v' w' → wpList Try.prog ops Q rest (a.put o.dst v') w') :
    wpList Try.prog ops Q (o :: rest) a W :=
  wpList_plain hgd fun _ hK => one_catA sl x ho base zs r hown hsz hr hs hx hl fun v' w' h1 => hK _ _ (h v' w' h1)
theorem step_catA {ops : Array Oper} {o : Oper} {a : Act} {K : Act → World → Prop} {Q : Exit → Act → World → Prop} {E : Prop} (hgd : o.guard = none) (sl x : Operand)
    (ho : o.op = .call { callee := .builtin .append, args := #[sl, x], argTypes := #[37, 37] })
    {W : World} (base : Nat) (zs r : List Int) {v vx : Value} (hown : W.ownsRow base 3 1 v zs.length (cellsI zs)) (hsz : base ≤ W.heap.size) (hr : ReadsI W vx r)
    (hs : a.eval sl = v) (hx : a.eval x = vx) (hl : (zs.length + r.length) * 8 ≤ 140737488355328)
    (h : ∀ v' w', Pushed base W v (zs ++ r) v' w' → K (a.put o.dst v') w') :
    if Region.wanted o (yielded ops a.tmps) = true then Oper.wp Try.prog o a W K Q else E := by
  have hw : Region.wanted o (yielded ops a.tmps) = true := by simp [Region.wanted, hgd]
  rw [if_pos hw]
  exact one_catA sl x ho base zs r hown hsz hr hs hx hl h
end Go.Proofs.Ythbbeiflkiihdaa
