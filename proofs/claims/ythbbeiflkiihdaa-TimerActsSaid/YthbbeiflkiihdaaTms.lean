/-
  General: rows of timers (an id and a time, two cells each) of the call's own: read, written, cut, pushed behind.
-/
import Derived.Test.YthbbeiflkiihdaaBlk
import Derived.Test.YthbbeiflkiihdaaTList
import Derived.Test.YthbbeiflkiihdaaWhere
import Derived.Laws.OwnMore
namespace Go.Proofs.Ythbbeiflkiihdaa
open Go.RowKit
theorem infoT : (Try.prog.info? 57).map (fun i => (i.zero, i.size, i.bytes)) = some (some (.agg #[.int .i64 0, .int .i64 0]), 2, 16) := by kernel_rfl
def cellsT (A : List Tim.T) : List Value := A.flatMap fun x => [.int .i64 x.1, .int .i64 x.2]
theorem cellsT_append (l r : List Tim.T) : cellsT (l ++ r) = cellsT l ++ cellsT r := by simp [cellsT]
theorem cellsT_cons (f : Tim.T) (r : List Tim.T) : cellsT (f :: r) = Value.int .i64 f.1 :: Value.int .i64 f.2 :: cellsT r := by simp [cellsT]
theorem cellsT_length (l : List Tim.T) : (cellsT l).length = l.length * 2 := by
  induction l with
  | nil => rfl
  | cons f r ih => rw [cellsT_cons]; simp; omega
theorem cellsT_one (l : List Tim.T) : ∀ u ∈ cellsT l, u.oneCell' = true := by
  intro u hu
  simp only [cellsT, List.mem_flatMap] at hu
  obtain ⟨f, _, hf⟩ := hu
  simp only [List.mem_cons, List.not_mem_nil, or_false] at hf
  rcases hf with rfl | rfl <;> rfl
theorem cellsT_at (A : List Tim.T) : ∀ (k : Nat), k < A.length → (cellsT A)[2 * k]? = some (.int .i64 (Tim.g A k).1) ∧ (cellsT A)[2 * k + 1]? = some (.int .i64 (Tim.g A k).2) := by
  induction A with
  | nil => intro k h; simp at h
  | cons f r ih =>
    intro k h
    match k, h with
    | 0, _ => rw [cellsT_cons]; simp [Tim.g]
    | k + 1, h =>
      obtain ⟨h1, h2⟩ := ih k (by simpa using h)
      rw [cellsT_cons, show 2 * (k + 1) = 2 * k + 1 + 1 by omega]
      simp only [List.getElem?_cons_succ]
      have e : Tim.g (f :: r) (k + 1) = Tim.g r k := by simp [Tim.g]
      rw [e]
      exact ⟨h1, h2⟩
theorem cellsT_set (A : List Tim.T) : ∀ (k : Nat) (x : Tim.T), k < A.length → cellsT (A.set k x) = ((cellsT A).set (2 * k) (.int .i64 x.1)).set (2 * k + 1) (.int .i64 x.2) := by
  induction A with
  | nil => intro k x h; simp at h
  | cons f r ih =>
    intro k x h
    cases k with
    | zero => simp [cellsT_cons]
    | succ k =>
      rw [List.set_cons_succ, cellsT_cons, ih k x (by simpa using h), cellsT_cons, show 2 * (k + 1) = 2 * k + 1 + 1 by omega]
      simp
theorem cellsT_take (A : List Tim.T) : ∀ n : Nat, cellsT (A.take n) = (cellsT A).take (n * 2) := by
  induction A with
  | nil => intro n; simp [cellsT]
  | cons f r ih =>
    intro n
    cases n with
    | zero => simp [cellsT]
    | succ n =>
      rw [List.take_succ_cons, cellsT_cons, ih n, cellsT_cons, show (n + 1) * 2 = n * 2 + 1 + 1 by omega]
      simp
theorem cellsT_drop (A : List Tim.T) : ∀ n : Nat, cellsT (A.drop n) = (cellsT A).drop (n * 2) := by
  induction A with
  | nil => intro n; simp [cellsT]
  | cons f r ih =>
    intro n
    cases n with
    | zero => simp
    | succ n =>
      rw [List.drop_succ_cons, ih n, cellsT_cons, show (n + 1) * 2 = n * 2 + 1 + 1 by omega]
      simp
theorem indexT (b n cap k : Nat) (hk : k < n) (W : World) : (Instr.indexAt 48 (.slice (some ⟨b, 0, none⟩) n cap) (.int .i64 (k : Int))).run Try.prog W = .ok (.pointer (some ⟨b, 2 * k, none⟩)) W := by
  have hs : (sizeOf (Try.prog.elem 48)).run Try.prog W = .ok 2 W := Try.sizeOf57 W
  have e := run_indexAt_slice (P := Try.prog) W 48 ⟨b, 0, none⟩ n cap .i64 (k : Int) Try.underlying48
  rw [if_pos (by omega), hs] at e
  simp only [Result.andThen, Int.toNat_natCast] at e
  rw [e, box_add, Nat.mul_comm]
/-- 'v' is a slice of timers of the call's own, in a block from 'b' on; it holds 'A'. -/
def RowT (b : Nat) (W : World) (v : Value) (A : List Tim.T) : Prop := W.ownsRow b 57 2 v A.length (cellsT A)
theorem RowT.form {b : Nat} {W : World} {v : Value} {A : List Tim.T} (h : RowT b W v A) : ∃ p cap, v = .slice p A.length cap := by
  rcases h.2 with ⟨rfl, h0⟩ | ⟨g, cap, cur, rfl, _⟩
  · rw [h0]; exact ⟨none, 0, rfl⟩
  · exact ⟨_, cap, rfl⟩
theorem RowT.full {b : Nat} {W : World} {v : Value} {A : List Tim.T} (h : RowT b W v A) (h0 : 0 < A.length) : ∃ g cap, v = .slice (some ⟨g, 0, none⟩) A.length cap ∧ b ≤ g ∧ A.length ≤ cap ∧ g < W.heap.size := by
  rcases h.2 with ⟨_, h1⟩ | ⟨g, cap, cur, rfl, hb, hg, hl, _⟩
  · omega
  · refine ⟨g, cap, rfl, hb, hl, ?_⟩
    rcases Nat.lt_or_ge g W.heap.size with hlt | hge
    · exact hlt
    · rw [Array.getElem?_eq_none hge] at hg; cases hg
theorem RowT.empty (b : Nat) (W : World) : RowT b W (.slice none 0 0) [] := World.ownsRow_nil _ _ _ _
theorem RowT.below {b : Nat} {W W' : World} {v : Value} {A : List Tim.T} (h : RowT b W v A) (hb : Below W.heap.size W W') : RowT b W' v A :=
  World.ownsRow.kept (row := none) h ⟨hb.os, hb.tape, hb.output, hb.size, fun k hk _ => hb.block k hk⟩ (by cases hv : v.ownBlock <;> simp)
theorem RowT.lt {b : Nat} {W : World} {v : Value} {A : List Tim.T} (h : RowT b W v A) (k : Nat) (hk : v.ownBlock = some k) : b ≤ k ∧ k < W.heap.size := World.ownsRow.lt h k hk
/-- It hangs on its own block alone. -/
theorem RowT.same {b : Nat} {W W' : World} {v : Value} {A : List Tim.T} (h : RowT b W v A) (e : ∀ k, v.ownBlock = some k → W'.heap[k]? = W.heap[k]?) : RowT b W' v A := by
  refine ⟨h.1, ?_⟩
  rcases h.2 with h | ⟨g, cap, cur, rfl, h1, h2, h3⟩
  · exact .inl h
  · exact .inr ⟨g, cap, cur, rfl, h1, (e g rfl).trans h2, h3⟩
theorem RowT.cells {b g cap : Nat} {W : World} {A : List Tim.T} (h : RowT b W (.slice (some ⟨g, 0, none⟩) A.length cap) A) (k : Nat) (hk : k < A.length) :
    W.cell? ⟨g, 2 * k, none⟩ = some (.int .i64 (Tim.g A k).1) ∧ W.cell? ⟨g, 2 * k + 1, none⟩ = some (.int .i64 (Tim.g A k).2) := by
  have hc := World.ownsRow.cells (g := g) h rfl
  obtain ⟨c1, c2⟩ := cellsT_at A k hk
  have h1 := hc _ _ c1
  have h2 := hc _ _ c2
  rw [box_add] at h1 h2
  exact ⟨h1, h2⟩
theorem RowT.frozen {b g cap : Nat} {W : World} {A : List Tim.T} (h : RowT b W (.slice (some ⟨g, 0, none⟩) A.length cap) A) (o : Nat) : W.frozen? ⟨g, o, none⟩ = false := World.ownsRow.frozenAt h o
/-- One of its timers is written over. -/
theorem RowT.set {b g cap : Nat} {W : World} {A : List Tim.T} (h : RowT b W (.slice (some ⟨g, 0, none⟩) A.length cap) A) (k : Nat) (x : Tim.T) (hk : k < A.length) :
    RowT b ((W.setCell ⟨g, 2 * k, none⟩ (.int .i64 x.1)).setCell ⟨g, 2 * k + 1, none⟩ (.int .i64 x.2)) (.slice (some ⟨g, 0, none⟩) A.length cap) (A.set k x) := by
  have h1 := (World.ownsRow.stored h (2 * k) (.int .i64 x.1)).1
  have h2 := (World.ownsRow.stored h1 (2 * k + 1) (.int .i64 x.2)).1
  unfold RowT
  rw [List.length_set, cellsT_set A k x hk]
  exact h2
/-- .. its second number alone. -/
theorem RowT.setAt {b g cap : Nat} {W : World} {A : List Tim.T} (h : RowT b W (.slice (some ⟨g, 0, none⟩) A.length cap) A) (k : Nat) (x : Int) (hk : k < A.length) :
    RowT b (W.setCell ⟨g, 2 * k + 1, none⟩ (.int .i64 x)) (.slice (some ⟨g, 0, none⟩) A.length cap) (A.set k ((Tim.g A k).1, x)) := by
  have h2 := (World.ownsRow.stored h (2 * k + 1) (.int .i64 x)).1
  unfold RowT
  have e : (cellsT A).set (2 * k) (.int .i64 (Tim.g A k).1) = cellsT A := by
    apply List.ext_getElem?
    intro i
    rw [List.getElem?_set]
    split
    · rename_i e; subst e
      have := (cellsT_at A k hk).1
      rw [this, if_pos (by rw [cellsT_length]; omega)]
    · rfl
  rw [List.length_set, cellsT_set A k _ hk, e]
  exact h2
/-- The last ones are cut away. -/
theorem RowT.take {b g cap : Nat} {W : World} {A : List Tim.T} (h : RowT b W (.slice (some ⟨g, 0, none⟩) A.length cap) A) (n : Nat) (hn : n ≤ A.length) : RowT b W (.slice (some ⟨g, 0, none⟩) n cap) (A.take n) := by
  have hl : (A.take n).length = n := by rw [List.length_take]; omega
  rcases h.2 with ⟨h1, _⟩ | ⟨g', cap', cur, h1, h2, h3, h4, h5, h6, h7⟩
  · cases h1
  · simp only [Value.slice.injEq, Option.some.injEq, Addr.mk.injEq, true_and, and_true] at h1
    obtain ⟨rfl, rfl⟩ := h1
    refine ⟨by rw [cellsT_length], .inr ⟨g, cap, cur, by rw [hl], h2, h3, by omega, h5, h6, ?_⟩⟩
    rw [hl, cellsT_take, ← h7, List.take_take, Nat.min_eq_left (by omega)]
/-- One more is pushed behind it: at a step of a region that draws, and in a plain one. What else has changed lies in the row's own block. -/
theorem one_catT {o : Oper} {a : Act} {K : Act → World → Prop} {Q : Exit → Act → World → Prop} (sl x : Operand)
    (ho : o.op = .call { callee := .builtin .append, args := #[sl, x], argTypes := #[48, 48] })
    {W : World} (b : Nat) (A : List Tim.T) (y : Tim.T) {v : Value} {G : Nat} (hown : RowT b W v A) (hsz : b ≤ W.heap.size) (c0 : W.cell? ⟨G, 0, none⟩ = some (.int .i64 y.1)) (c1 : W.cell? ⟨G, 1, none⟩ = some (.int .i64 y.2))
    (hs : a.eval sl = v) (hx : a.eval x = .slice (some ⟨G, 0, none⟩) 1 1) (hl : A.length ≤ 100000000)
    (h : ∀ v' w', RowT b w' v' (A ++ [y]) → W.grownBy w' v.ownBlock → (∀ k, v'.ownBlock = some k → v.ownBlock = some k ∨ W.heap.size ≤ k) → K (a.put o.dst v') w') : o.wp Try.prog a W K Q := by
  obtain ⟨i0, hi, hz0, hz1, hz2⟩ := info_parts infoT
  have hnews : ∀ j u, (cellsT [y])[j]? = some u → W.cell? ((⟨G, 0, none⟩ : Addr).add j) = some u := by
    intro j u hj
    rw [box_add]
    match j, hj with
    | 0, hj => cases hj; exact c0
    | 1, hj => cases hj; exact c1
  obtain ⟨v', w', hr, h2, h3, _⟩ := run_append_own (P := Try.prog) W b 48 o.type 57 i0 (.agg #[.int .i64 0, .int .i64 0]) 2 16 Try.underlying48 hi hz0 hz1 hz2 rfl (by decide) v A.length (cellsT A) hown ⟨G, 0, none⟩ 1 1 (cellsT [y]) rfl hnews (cellsT_one [y]) (by unfold maxLen; omega) (by omega) hsz
  have hw := append_where b 48 o.type 57 i0 (.agg #[.int .i64 0, .int .i64 0]) Try.underlying48 hi hz0 v A.length (cellsT A) (by rw [hz1]; exact hown) ⟨G, 0, none⟩ 1 1 (cellsT [y]) (by decide) (by rw [hz1]; rfl) hnews (cellsT_one [y]) (by unfold maxLen; omega) (by rw [hz2]; omega) hr
  unfold Oper.wp execOp
  simp only [ho, resolve, invoke, builtin, Sem.run_bind, Sem.run_pure, Result.andThen_ok, List.map_toArray, List.map_cons, List.map_nil, hs, hx, hr]
  exact h v' w' (by unfold RowT; rw [cellsT_append, List.length_append]; exact h2) h3 hw
theorem step_catT {ops : Array Oper} {o : Oper} {a : Act} {K : Act → World → Prop} {Q : Exit → Act → World → Prop} {E : Prop} (hgd : o.guard = none) (sl x : Operand)
    (ho : o.op = .call { callee := .builtin .append, args := #[sl, x], argTypes := #[48, 48] })
    {W : World} (b : Nat) (A : List Tim.T) (y : Tim.T) {v : Value} {G : Nat} (hown : RowT b W v A) (hsz : b ≤ W.heap.size) (c0 : W.cell? ⟨G, 0, none⟩ = some (.int .i64 y.1)) (c1 : W.cell? ⟨G, 1, none⟩ = some (.int .i64 y.2))
    (hs : a.eval sl = v) (hx : a.eval x = .slice (some ⟨G, 0, none⟩) 1 1) (hl : A.length ≤ 100000000)
    (h : ∀ v' w', RowT b w' v' (A ++ [y]) → W.grownBy w' v.ownBlock → (∀ k, v'.ownBlock = some k → v.ownBlock = some k ∨ W.heap.size ≤ k) → K (a.put o.dst v') w') :
    if Region.wanted o (yielded ops a.tmps) = true then Oper.wp Try.prog o a W K Q else E := by
  have hw : Region.wanted o (yielded ops a.tmps) = true := by simp [Region.wanted, hgd]
  rw [if_pos hw]
  exact one_catT sl x ho b A y hown hsz c0 c1 hs hx hl h
theorem wp_catT {ops : Array Oper} {rest : List Oper} {o : Oper} {a : Act} {Q : Exit → Act → World → Prop} (hgd : o.guard = none) (sl x : Operand)
    (ho : o.op = .call { callee := .builtin .append, args := #[sl, x], argTypes := #[48, 48] })
    {W : World} (b : Nat) (A : List Tim.T) (y : Tim.T) {v : Value} {G : Nat} (hown : RowT b W v A) (hsz : b ≤ W.heap.size) (c0 : W.cell? ⟨G, 0, none⟩ = some (.int .i64 y.1)) (c1 : W.cell? ⟨G, 1, none⟩ = some (.int .i64 y.2))
    (hs : a.eval sl = v) (hx : a.eval x = .slice (some ⟨G, 0, none⟩) 1 1) (hl : A.length ≤ 100000000)
    (h : ∀ v' w', RowT b w' v' (A ++ [y]) → W.grownBy w' v.ownBlock → (∀ k, v'.ownBlock = some k → v.ownBlock = some k ∨ W.heap.size ≤ k) → wpList Try.prog ops Q rest (a.put o.dst v') w') :
    wpList Try.prog ops Q (o :: rest) a W :=
  wpList_plain hgd fun _ hK => one_catT sl x ho b A y hown hsz c0 c1 hs hx hl fun v' w' h1 h2 h3 => hK _ _ (h v' w' h1 h2 h3)
end Go.Proofs.Ythbbeiflkiihdaa
