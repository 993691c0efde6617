/-
  General: rows of timers (an id and a time, two cells each) of the call's own: read, written, cut, pushed behind. (The document's own.)
-/
import Derived.Test.YthbbeiflkiihdaaBlk
import Derived.Test.YthbbeiflkiihdaaTList
import Derived.Test.YthbbeiflkiihdaaWhere
import Derived.Laws.OwnMore
import Derived.Test.YthbbeiflkiihdaaTms
namespace Go.Proofs.Ythbbeiflkiihdaa
open Go.RowKit
theorem infoX : (Try.prog.info? 44).map (fun i => (i.zero, i.size, i.bytes)) = some (some (.agg #[.int .i64 0, .int .i64 0]), 2, 16) := by kernel_rfl
theorem indexX (b n cap k : Nat) (hk : k < n) (W : World) : (Instr.indexAt 26 (.slice (some ⟨b, 0, none⟩) n cap) (.int .i64 (k : Int))).run Try.prog W = .ok (.pointer (some ⟨b, 2 * k, none⟩)) W := by
  have hs : (sizeOf (Try.prog.elem 26)).run Try.prog W = .ok 2 W := Try.sizeOf44 W
  have e := run_indexAt_slice (P := Try.prog) W 26 ⟨b, 0, none⟩ n cap .i64 (k : Int) Try.underlying26
  rw [if_pos (by omega), hs] at e
  simp only [Result.andThen, Int.toNat_natCast] at e
  rw [e, box_add, Nat.mul_comm]
/-- 'v' is a slice of timers of the call's own, in a block from 'b' on; it holds 'A'. -/
def RowX (b : Nat) (W : World) (v : Value) (A : List Tim.T) : Prop := W.ownsRow b 44 2 v A.length (cellsT A)
theorem RowX.form {b : Nat} {W : World} {v : Value} {A : List Tim.T} (h : RowX b W v A) : ∃ p cap, v = .slice p A.length cap := by
  rcases h.2 with ⟨rfl, h0⟩ | ⟨g, cap, cur, rfl, _⟩
  · rw [h0]; exact ⟨none, 0, rfl⟩
  · exact ⟨_, cap, rfl⟩
theorem RowX.full {b : Nat} {W : World} {v : Value} {A : List Tim.T} (h : RowX b W v A) (h0 : 0 < A.length) : ∃ g cap, v = .slice (some ⟨g, 0, none⟩) A.length cap ∧ b ≤ g ∧ A.length ≤ cap ∧ g < W.heap.size := by
  rcases h.2 with ⟨_, h1⟩ | ⟨g, cap, cur, rfl, hb, hg, hl, _⟩
  · omega
  · refine ⟨g, cap, rfl, hb, hl, ?_⟩
    rcases Nat.lt_or_ge g W.heap.size with hlt | hge
    · exact hlt
    · rw [Array.getElem?_eq_none hge] at hg; cases hg
theorem RowX.empty (b : Nat) (W : World) : RowX b W (.slice none 0 0) [] := World.ownsRow_nil _ _ _ _
theorem RowX.below {b : Nat} {W W' : World} {v : Value} {A : List Tim.T} (h : RowX b W v A) (hb : Below W.heap.size W W') : RowX b W' v A :=
  World.ownsRow.kept (row := none) h ⟨hb.os, hb.tape, hb.output, hb.size, fun k hk _ => hb.block k hk⟩ (by cases hv : v.ownBlock <;> simp)
theorem RowX.lt {b : Nat} {W : World} {v : Value} {A : List Tim.T} (h : RowX b W v A) (k : Nat) (hk : v.ownBlock = some k) : b ≤ k ∧ k < W.heap.size := World.ownsRow.lt h k hk
/-- It hangs on its own block alone. -/
theorem RowX.same {b : Nat} {W W' : World} {v : Value} {A : List Tim.T} (h : RowX b W v A) (e : ∀ k, v.ownBlock = some k → W'.heap[k]? = W.heap[k]?) : RowX b W' v A := by
  refine ⟨h.1, ?_⟩
  rcases h.2 with h | ⟨g, cap, cur, rfl, h1, h2, h3⟩
  · exact .inl h
  · exact .inr ⟨g, cap, cur, rfl, h1, (e g rfl).trans h2, h3⟩
theorem RowX.cells {b g cap : Nat} {W : World} {A : List Tim.T} (h : RowX b W (.slice (some ⟨g, 0, none⟩) A.length cap) A) (k : Nat) (hk : k < A.length) :
    W.cell? ⟨g, 2 * k, none⟩ = some (.int .i64 (Tim.g A k).1) ∧ W.cell? ⟨g, 2 * k + 1, none⟩ = some (.int .i64 (Tim.g A k).2) := by
  have hc := World.ownsRow.cells (g := g) h rfl
  obtain ⟨c1, c2⟩ := cellsT_at A k hk
  have h1 := hc _ _ c1
  have h2 := hc _ _ c2
  rw [box_add] at h1 h2
  exact ⟨h1, h2⟩
theorem RowX.frozen {b g cap : Nat} {W : World} {A : List Tim.T} (h : RowX b W (.slice (some ⟨g, 0, none⟩) A.length cap) A) (o : Nat) : W.frozen? ⟨g, o, none⟩ = false := World.ownsRow.frozenAt h o
/-- One of its timers is written over. -/
theorem RowX.set {b g cap : Nat} {W : World} {A : List Tim.T} (h : RowX b W (.slice (some ⟨g, 0, none⟩) A.length cap) A) (k : Nat) (x : Tim.T) (hk : k < A.length) :
    RowX b ((W.setCell ⟨g, 2 * k, none⟩ (.int .i64 x.1)).setCell ⟨g, 2 * k + 1, none⟩ (.int .i64 x.2)) (.slice (some ⟨g, 0, none⟩) A.length cap) (A.set k x) := by
  have h1 := (World.ownsRow.stored h (2 * k) (.int .i64 x.1)).1
  have h2 := (World.ownsRow.stored h1 (2 * k + 1) (.int .i64 x.2)).1
  unfold RowX
  rw [List.length_set, cellsT_set A k x hk]
  exact h2
/-- .. its second number alone. -/
theorem RowX.setAt {b g cap : Nat} {W : World} {A : List Tim.T} (h : RowX b W (.slice (some ⟨g, 0, none⟩) A.length cap) A) (k : Nat) (x : Int) (hk : k < A.length) :
    RowX b (W.setCell ⟨g, 2 * k + 1, none⟩ (.int .i64 x)) (.slice (some ⟨g, 0, none⟩) A.length cap) (A.set k ((Tim.g A k).1, x)) := by
  have h2 := (World.ownsRow.stored h (2 * k + 1) (.int .i64 x)).1
  unfold RowX
  have e : (cellsT A).set (2 * k) (.int .i64 (Tim.g A k).1) = cellsT A := by
    apply List.ext_getElem?
    intro i
    rw [List.getElem?_set]
    split
    · rename_i e; subst e
      have := (cellsT_at A k hk).1
      rw [this, if_pos (by rw [cellsT_length]; omega)]
    · rfl
  rw [List.length_set, cellsT_set A k _ hk, e]
  exact h2
/-- The last ones are cut away. -/
theorem RowX.take {b g cap : Nat} {W : World} {A : List Tim.T} (h : RowX b W (.slice (some ⟨g, 0, none⟩) A.length cap) A) (n : Nat) (hn : n ≤ A.length) : RowX b W (.slice (some ⟨g, 0, none⟩) n cap) (A.take n) := by
  have hl : (A.take n).length = n := by rw [List.length_take]; omega
  rcases h.2 with ⟨h1, _⟩ | ⟨g', cap', cur, h1, h2, h3, h4, h5, h6, h7⟩
  · cases h1
  · simp only [Value.slice.injEq, Option.some.injEq, Addr.mk.injEq, true_and, and_true] at h1
    obtain ⟨rfl, rfl⟩ := h1
    refine ⟨by rw [cellsT_length], .inr ⟨g, cap, cur, by rw [hl], h2, h3, by omega, h5, h6, ?_⟩⟩
    rw [hl, cellsT_take, ← h7, List.take_take, Nat.min_eq_left (by omega)]
/-- One more is pushed behind it: at a step of a region that draws, and in a plain one. What else has changed lies in the row's own block. -/
theorem one_catX {o : Oper} {a : Act} {K : Act → World → Prop} {Q : Exit → Act → World → Prop} (sl x : Operand)
    (ho : o.op = .call { callee := .builtin .append, args := #[sl, x], argTypes := #[26, 26] })
    {W : World} (b : Nat) (A : List Tim.T) (y : Tim.T) {v : Value} {G : Nat} (hown : RowX b W v A) (hsz : b ≤ W.heap.size) (c0 : W.cell? ⟨G, 0, none⟩ = some (.int .i64 y.1)) (c1 : W.cell? ⟨G, 1, none⟩ = some (.int .i64 y.2))
    (hs : a.eval sl = v) (hx : a.eval x = .slice (some ⟨G, 0, none⟩) 1 1) (hl : A.length ≤ 100000000)
    (h : ∀ v' w', RowX b w' v' (A ++ [y]) → W.grownBy w' v.ownBlock → (∀ k, v'.ownBlock = some k → v.ownBlock = some k ∨ W.heap.size ≤ k) → K (a.put o.dst v') w') : o.wp Try.prog a W K Q := by
  obtain ⟨i0, hi, hz0, hz1, hz2⟩ := info_parts infoX
  have hnews : ∀ j u, (cellsT [y])[j]? = some u → W.cell? ((⟨G, 0, none⟩ : Addr).add j) = some u := by
    intro j u hj
    rw [box_add]
    match j, hj with
    | 0, hj => cases hj; exact c0
    | 1, hj => cases hj; exact c1
  obtain ⟨v', w', hr, h2, h3, _⟩ := run_append_own (P := Try.prog) W b 26 o.type 44 i0 (.agg #[.int .i64 0, .int .i64 0]) 2 16 Try.underlying26 hi hz0 hz1 hz2 rfl (by decide) v A.length (cellsT A) hown ⟨G, 0, none⟩ 1 1 (cellsT [y]) rfl hnews (cellsT_one [y]) (by unfold maxLen; omega) (by omega) hsz
  have hw := append_where b 26 o.type 44 i0 (.agg #[.int .i64 0, .int .i64 0]) Try.underlying26 hi hz0 v A.length (cellsT A) (by rw [hz1]; exact hown) ⟨G, 0, none⟩ 1 1 (cellsT [y]) (by decide) (by rw [hz1]; rfl) hnews (cellsT_one [y]) (by unfold maxLen; omega) (by rw [hz2]; omega) hr
  unfold Oper.wp execOp
  simp only [ho, resolve, invoke, builtin, Sem.run_bind, Sem.run_pure, Result.andThen_ok, List.map_toArray, List.map_cons, List.map_nil, hs, hx, hr]
  exact h v' w' (by unfold RowX; rw [cellsT_append, List.length_append]; exact h2) h3 hw
theorem step_catX {ops : Array Oper} {o : Oper} {a : Act} {K : Act → World → Prop} {Q : Exit → Act → World → Prop} {E : Prop} (hgd : o.guard = none) (sl x : Operand)
    (ho : o.op = .call { callee := .builtin .append, args := #[sl, x], argTypes := #[26, 26] })
    {W : World} (b : Nat) (A : List Tim.T) (y : Tim.T) {v : Value} {G : Nat} (hown : RowX b W v A) (hsz : b ≤ W.heap.size) (c0 : W.cell? ⟨G, 0, none⟩ = some (.int .i64 y.1)) (c1 : W.cell? ⟨G, 1, none⟩ = some (.int .i64 y.2))
    (hs : a.eval sl = v) (hx : a.eval x = .slice (some ⟨G, 0, none⟩) 1 1) (hl : A.length ≤ 100000000)
    (h : ∀ v' w', RowX b w' v' (A ++ [y]) → W.grownBy w' v.ownBlock → (∀ k, v'.ownBlock = some k → v.ownBlock = some k ∨ W.heap.size ≤ k) → K (a.put o.dst v') w') :
    if Region.wanted o (yielded ops a.tmps) = true then Oper.wp Try.prog o a W K Q else E := by
  have hw : Region.wanted o (yielded ops a.tmps) = true := by simp [Region.wanted, hgd]
  rw [if_pos hw]
  exact one_catX sl x ho b A y hown hsz c0 c1 hs hx hl h
theorem wp_catX {ops : Array Oper} {rest : List Oper} {o : Oper} {a : Act} {Q : Exit → Act → World → Prop} (hgd : o.guard = none) (sl x : Operand)
    (ho : o.op = .call { callee := .builtin .append, args := #[sl, x], argTypes := #[26, 26] })
    {W : World} (b : Nat) (A : List Tim.T) (y : Tim.T) {v : Value} {G : Nat} (hown : RowX b W v A) (hsz : b ≤ W.heap.size) (c0 : W.cell? ⟨G, 0, none⟩ = some (.int .i64 y.1)) (c1 : W.cell? ⟨G, 1, none⟩ = some (.int .i64 y.2))
    (hs : a.eval sl = v) (hx : a.eval x = .slice (some ⟨G, 0, none⟩) 1 1) (hl : A.length ≤ 100000000)
    (h : ∀ v' w', RowX b w' v' (A ++ [y]) → W.grownBy w' v.ownBlock → (∀ k, v'.ownBlock = some k → v.ownBlock = some k ∨ W.heap.size ≤ k) → wpList Try.prog ops Q rest (a.put o.dst v') w') :
    wpList Try.prog ops Q (o :: rest) a W :=
  wpList_plain hgd fun _ hK => one_catX sl x ho b A y hown hsz c0 c1 hs hx hl fun v' w' h1 h2 h3 => hK _ _ (h v' w' h1 h2 h3)
end Go.Proofs.Ythbbeiflkiihdaa
