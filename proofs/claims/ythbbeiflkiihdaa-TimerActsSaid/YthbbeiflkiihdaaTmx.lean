/-
  General: rows of the document's timers that are read, and pushed behind a row of the call's own.
-/
import Derived.Test.YthbbeiflkiihdaaTmr
import Derived.Test.YthbbeiflkiihdaaAny
namespace Go.Proofs.Ythbbeiflkiihdaa
open Go.RowKit
/-- 'v' is a slice that reads as these timers. -/
def ReadsX (W : World) (v : Value) (A : List Tim.T) : Prop := (A = [] ∧ ((∃ a cap, v = .slice (some a) 0 cap) ∨ v = .slice none 0 0)) ∨
  ∃ b off cap, v = .slice (some ⟨b, off, none⟩) A.length cap ∧ ∀ j u, (cellsT A)[j]? = some u → W.cell? ⟨b, off + j, none⟩ = some u
theorem RowX.reads {b : Nat} {W : World} {v : Value} {A : List Tim.T} (h : RowX b W v A) : ReadsX W v A := by
  have hc := fun g hg => World.ownsRow.cells (g := g) h hg
  rcases h.2 with ⟨rfl, h0⟩ | ⟨g, cap, cur, rfl, _⟩
  · exact .inl ⟨List.length_eq_zero_iff.1 h0, .inr rfl⟩
  · refine .inr ⟨g, 0, cap, rfl, fun j u hj => ?_⟩
    have := hc g rfl j u hj
    rwa [box_add, ← Nat.zero_add j] at this
theorem RowX.readsTake {b g cap : Nat} {W : World} {A : List Tim.T} (h : RowX b W (.slice (some ⟨g, 0, none⟩) A.length cap) A) (n : Nat) (hn : n ≤ A.length) (c : Nat) : ReadsX W (.slice (some ⟨g, 0, none⟩) n c) (A.take n) := by
  have hc := World.ownsRow.cells (g := g) h rfl
  have e : (A.take n).length = n := by rw [List.length_take]; omega
  refine .inr ⟨g, 0, c, by rw [e], fun j u hj => ?_⟩
  rw [cellsT_take, List.getElem?_take] at hj
  split at hj
  · have := hc j u hj
    rwa [box_add, ← Nat.zero_add j] at this
  · cases hj
theorem RowX.readsDrop {b g cap : Nat} {W : World} {A : List Tim.T} (h : RowX b W (.slice (some ⟨g, 0, none⟩) A.length cap) A) (n : Nat) (c : Nat) : ReadsX W (.slice (some ⟨g, 2 * n, none⟩) (A.length - n) c) (A.drop n) := by
  have hc := World.ownsRow.cells (g := g) h rfl
  refine .inr ⟨g, 2 * n, c, by rw [List.length_drop], fun j u hj => ?_⟩
  rw [cellsT_drop, List.getElem?_drop] at hj
  have := hc _ u hj
  rwa [box_add, Nat.mul_comm] at this
structure PushedX (base : Nat) (W : World) (v : Value) (A : List Tim.T) (v' : Value) (w' : World) : Prop where
  row : RowX base w' v' A
  grown : W.grownBy w' v.ownBlock
  lies : ∀ k, v'.ownBlock = some k → v.ownBlock = some k ∨ W.heap.size ≤ k
theorem one_catXs {o : Oper} {a : Act} {K : Act → World → Prop} {Q : Exit → Act → World → Prop} (sl x : Operand)
    (ho : o.op = .call { callee := .builtin .append, args := #[sl, x], argTypes := #[26, 26] })
    {W : World} (base : Nat) (A r : List Tim.T) {v vx : Value} (hown : RowX base W v A) (hsz : base ≤ W.heap.size) (hr : ReadsX W vx r)
    (hs : a.eval sl = v) (hx : a.eval x = vx) (hl : A.length + r.length ≤ 1000000)
    (h : ∀ v' w', PushedX base W v (A ++ r) v' w' → K (a.put o.dst v') w') : o.wp Try.prog a W K Q := by
  obtain ⟨i0, hi, hz0, hz1, hz2⟩ := info_parts infoX
  have hrun : ∃ v' w', (Builtin.append_ #[26, 26] o.type #[v, vx]).run Try.prog W = .ok v' w' ∧ PushedX base W v (A ++ r) v' w' := by
    have hsame : r = [] → PushedX base W v (A ++ r) v W := fun e => by
      subst e
      rw [List.append_nil]
      exact ⟨hown, grown_self W _, fun k hk => .inl hk⟩
    by_cases hne : r = []
    · have e0 : ∃ p cap, vx = .slice p 0 cap ∧ (p = none → cap = 0) := by
        subst hne
        rcases hr with ⟨_, ⟨ad, cap, rfl⟩ | rfl⟩ | ⟨b, off, cap, rfl, _⟩
        · exact ⟨_, _, rfl, fun e => by cases e⟩
        · exact ⟨_, _, rfl, fun _ => rfl⟩
        · exact ⟨_, _, rfl, fun e => by cases e⟩
      obtain ⟨p, cap, rfl, hp⟩ := e0
      cases p with
      | none =>
        rw [hp rfl]
        exact ⟨v, W, run_append_owned_none (P := Try.prog) (w := W) base 26 o.type 44 i0 2 Try.underlying26 hi v A.length (cellsT A) hown, hsame hne⟩
      | some ad => exact ⟨v, W, append_some_none base 26 o.type 44 i0 2 Try.underlying26 hi v A.length (cellsT A) hown ad cap, hsame hne⟩
    · rcases hr with ⟨h0, _⟩ | ⟨b, off, cap, rfl, hc⟩
      · exact absurd h0 hne
      · have hnews : ∀ j u, (cellsT r)[j]? = some u → W.cell? ((⟨b, off, none⟩ : Addr).add j) = some u := fun j u hj => by
          rw [add_at]
          exact hc j u hj
        obtain ⟨v', w', hr, h2, h3, _⟩ := run_append_own (P := Try.prog) W base 26 o.type 44 i0 (.agg #[.int .i64 0, .int .i64 0]) 2 16 Try.underlying26 hi hz0 hz1 hz2 rfl (by decide) v A.length (cellsT A) hown ⟨b, off, none⟩ r.length cap (cellsT r) (cellsT_length r) hnews (cellsT_one r) (by unfold maxLen; omega) (by omega) hsz
        have hw := append_where (P := Try.prog) base 26 o.type 44 i0 (.agg #[.int .i64 0, .int .i64 0]) Try.underlying26 hi hz0 v A.length (cellsT A) (by rw [hz1]; exact hown) ⟨b, off, none⟩ r.length cap (cellsT r) (List.length_pos_iff.2 hne) (by rw [hz1]; exact cellsT_length r) hnews (cellsT_one r) (by unfold maxLen; omega) (by rw [hz2]; omega) hr
        exact ⟨v', w', hr, by unfold RowX; rw [cellsT_append, List.length_append]; exact h2, h3, hw⟩
  obtain ⟨v', w', hrun, hp⟩ := hrun
  unfold Oper.wp execOp
  simp only [ho, resolve, invoke, builtin, Sem.run_bind, Sem.run_pure, Result.andThen_ok, List.map_toArray, List.map_cons, List.map_nil, hs, hx, hrun]
  exact h v' w' hp
theorem wp_catXs {ops : Array Oper} {rest : List Oper} {o : Oper} {a : Act} {Q : Exit → Act → World → Prop} (hgd : o.guard = none) (sl x : Operand)
    (ho : o.op = .call { callee := .builtin .append, args := #[sl, x], argTypes := #[26, 26] })
    {W : World} (base : Nat) (A r : List Tim.T) {v vx : Value} (hown : RowX base W v A) (hsz : base ≤ W.heap.size) (hr : ReadsX W vx r)
    (hs : a.eval sl = v) (hx : a.eval x = vx) (hl : A.length + r.length ≤ 1000000)
    (h : ∀ v' w', PushedX base W v (A ++ r) v' w' → wpList Try.prog ops Q rest (a.put o.dst v') w') :
    wpList Try.prog ops Q (o :: rest) a W :=
  wpList_plain hgd fun _ hK => one_catXs sl x ho base A r hown hsz hr hs hx hl fun v' w' h1 => hK _ _ (h v' w' h1)
theorem step_catXs {ops : Array Oper} {o : Oper} {a : Act} {K : Act → World → Prop} {Q : Exit → Act → World → Prop} {E : Prop} (hgd : o.guard = none) (sl x : Operand)
    (ho : o.op = .call { callee := .builtin .append, args := #[sl, x], argTypes := #[26, 26] })
    {W : World} (base : Nat) (A r : List Tim.T) {v vx : Value} (hown : RowX base W v A) (hsz : base ≤ W.heap.size) (hr : ReadsX W vx r)
    (hs : a.eval sl = v) (hx : a.eval x = vx) (hl : A.length + r.length ≤ 1000000)
    (h : ∀ v' w', PushedX base W v (A ++ r) v' w' → K (a.put o.dst v') w') :
    if Region.wanted o (yielded ops a.tmps) = true then Oper.wp Try.prog o a W K Q else E := by
  have hw : Region.wanted o (yielded ops a.tmps) = true := by simp [Region.wanted, hgd]
  rw [if_pos hw]
  exact one_catXs sl x ho base A r hown hsz hr hs hx hl h
end Go.Proofs.Ythbbeiflkiihdaa
