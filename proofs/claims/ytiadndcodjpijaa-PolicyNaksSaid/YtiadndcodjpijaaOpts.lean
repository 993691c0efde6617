/-
  Slices of options (a kind and its data, two cells each): that came in, or of the call's own: read, copied, pushed behind.
-/
import Derived.Test.YtiadndcodjpijaaOwn
import Derived.Test.YtiadndcodjpijaaOMath
import Derived.Laws.AppendOwnNone
import Derived.Laws.OwnMore
import Derived.RegionTactic
namespace Go.Proofs.Ytiadndcodjpijaa
open Go.RowKit
theorem infoO : (Try.prog.info? 36).map (fun i => (i.zero, i.size, i.bytes)) = some (some (.agg #[.int .i64 0, .string ⟨#[]⟩]), 2, 24) := by kernel_rfl
/-- An option as a value. -/
def opv (o : Opt.Op) : Value := .agg #[.int .i64 o.1, .string ⟨o.2.toArray⟩]
def cellsO (os : List Opt.Op) : List Value := os.flatMap fun f => [.int .i64 f.1, .string ⟨f.2.toArray⟩]
theorem cellsO_append (l r : List Opt.Op) : cellsO (l ++ r) = cellsO l ++ cellsO r := by simp [cellsO]
theorem cellsO_cons (f : Opt.Op) (r : List Opt.Op) : cellsO (f :: r) = Value.int .i64 f.1 :: Value.string ⟨f.2.toArray⟩ :: cellsO r := by simp [cellsO]
theorem cellsO_length (l : List Opt.Op) : (cellsO l).length = l.length * 2 := by
  induction l with
  | nil => rfl
  | cons f r ih => rw [cellsO_cons]; simp; omega
theorem cellsO_one (l : List Opt.Op) : ∀ u ∈ cellsO l, u.oneCell' = true := by
  intro u hu
  simp only [cellsO, List.mem_flatMap] at hu
  obtain ⟨f, _, hf⟩ := hu
  simp only [List.mem_cons, List.not_mem_nil, or_false] at hf
  rcases hf with rfl | rfl <;> rfl
theorem cellsO_at (fs : List Opt.Op) : ∀ (k : Nat) (h : k < fs.length), (cellsO fs)[2 * k]? = some (.int .i64 fs[k].1) ∧ (cellsO fs)[2 * k + 1]? = some (.string ⟨fs[k].2.toArray⟩) := by
  induction fs with
  | nil => intro k h; simp at h
  | cons f r ih =>
    intro k h
    match k, h with
    | 0, _ => rw [cellsO_cons]; simp
    | k + 1, h =>
      obtain ⟨h1, h2⟩ := ih k (by simpa using h)
      rw [cellsO_cons, show 2 * (k + 1) = 2 * k + 1 + 1 by omega]
      simp only [List.getElem?_cons_succ, List.getElem_cons_succ]
      exact ⟨h1, h2⟩
theorem cellsO_of (fs : List Opt.Op) (P : Nat → Value → Prop) (h : ∀ k (h : k < fs.length), P (2 * k) (.int .i64 fs[k].1) ∧ P (2 * k + 1) (.string ⟨fs[k].2.toArray⟩)) : ∀ j u, (cellsO fs)[j]? = some u → P j u := by
  intro j u hj
  have hlt := (List.getElem?_eq_some_iff.1 hj).1
  rw [cellsO_length] at hlt
  have hk : j / 2 < fs.length := by omega
  obtain ⟨h1, h2⟩ := h (j / 2) hk
  obtain ⟨c1, c2⟩ := cellsO_at fs (j / 2) hk
  rcases Nat.mod_two_eq_zero_or_one j with hm | hm
  · have e : 2 * (j / 2) = j := by omega
    rw [e] at h1 c1
    rw [c1] at hj
    cases hj
    exact h1
  · have e : 2 * (j / 2) + 1 = j := by omega
    rw [e] at h2 c2
    rw [c2] at hj
    cases hj
    exact h2
/-- 'v' is a slice that reads as these options. -/
def ReadsO (W : World) (v : Value) (os : List Opt.Op) : Prop := (os = [] ∧ ((∃ a cap, v = .slice (some a) 0 cap) ∨ v = .slice none 0 0)) ∨
  ∃ b off cap, v = .slice (some ⟨b, off, none⟩) os.length cap ∧ os.length ≤ cap ∧ ∀ j u, (cellsO os)[j]? = some u → W.cell? ⟨b, off + j, none⟩ = some u
theorem ReadsO.below {W W' : World} {v : Value} {os : List Opt.Op} (h : ReadsO W v os) (hb : Below W.heap.size W W') : ReadsO W' v os := by
  rcases h with h | ⟨b, off, cap, e, hl, hc⟩
  · exact .inl h
  · exact .inr ⟨b, off, cap, e, hl, fun j u hj => (hb.cell (block_lt_of_cell (hc j u hj))).trans (hc j u hj)⟩
theorem opt_index (b off n cap k : Nat) (hk : k < n) (W : World) : (Instr.indexAt 25 (.slice (some ⟨b, off, none⟩) n cap) (.int .i64 (k : Int))).run Try.prog W = .ok (.pointer (some ⟨b, off + 2 * k, none⟩)) W := by
  have hs : (sizeOf (Try.prog.elem 25)).run Try.prog W = .ok 2 W := Try.sizeOf36 W
  have e := run_indexAt_slice (P := Try.prog) W 25 ⟨b, off, none⟩ n cap .i64 (k : Int) Try.underlying25
  rw [if_pos (by omega), hs] at e
  simp only [Result.andThen, Int.toNat_natCast] at e
  rw [e]
  have e2 : (⟨b, off, none⟩ : Addr).add (k * 2) = ⟨b, off + 2 * k, none⟩ := by
    rw [Nat.mul_comm]
    unfold Addr.add
    split <;> simp_all
  rw [e2]
/-- As the walks take it. -/
theorem ReadsO.at {W : World} {v : Value} {os : List Opt.Op} (h : ReadsO W v os) : ∃ (p : Option Addr) (cap b off : Nat), v = .slice p os.length cap ∧ (os.length ≤ cap) ∧ (0 < os.length → p = some ⟨b, off, none⟩) ∧
    (∀ k, k < os.length → ∀ W' : World, (Instr.indexAt 25 (.slice p os.length cap) (.int .i64 (k : Int))).run Try.prog W' = .ok (.pointer (some ⟨b, off + 2 * k, none⟩)) W') ∧
    ∀ k (h : k < os.length), W.cell? ⟨b, off + 2 * k, none⟩ = some (.int .i64 os[k].1) ∧ W.cell? ⟨b, off + 2 * k + 1, none⟩ = some (.string ⟨os[k].2.toArray⟩) := by
  rcases h with ⟨rfl, ⟨a, cap, rfl⟩ | rfl⟩ | ⟨b, off, cap, rfl, hl, hc⟩
  · exact ⟨_, cap, 0, 0, rfl, by simp, fun h => absurd h (by simp), fun k hk => absurd hk (by simp), fun k hk => absurd hk (by simp)⟩
  · exact ⟨_, 0, 0, 0, rfl, by simp, fun h => absurd h (by simp), fun k hk => absurd hk (by simp), fun k hk => absurd hk (by simp)⟩
  · exact ⟨_, cap, b, off, rfl, hl, fun _ => rfl, fun k hk W' => opt_index b off _ cap k hk W', fun k hk => ⟨hc _ _ (cellsO_at os k hk).1, hc _ _ (cellsO_at os k hk).2⟩⟩
theorem reads_nil (W : World) : ReadsO W (.slice none 0 0) [] := .inl ⟨rfl, .inr rfl⟩
theorem add_lit (b off j : Nat) : (⟨b, off, none⟩ : Addr).add j = ⟨b, off + j, none⟩ := by unfold Addr.add; split <;> simp_all
/-- A block just laid reads as the options that were laid. -/
theorem reads_lit (W : World) (os : List Opt.Op) (C : Array Value) (h : C = (cellsO os).toArray) : ReadsO (W.alloc (.cells C 36)) (.slice (some ⟨W.heap.size, 0, none⟩) os.length os.length) os := by
  subst h
  refine .inr ⟨_, _, _, rfl, Nat.le_refl _, fun j u hj => ?_⟩
  have := new_cells W (cellsO os) 36 j u hj
  rwa [add_lit] at this
theorem reads_lit_at (W : World) (n : Nat) (hn : W.heap.size = n) (os : List Opt.Op) (C : Array Value) (h : C = (cellsO os).toArray) : ReadsO (W.alloc (.cells C 36)) (.slice (some ⟨n, 0, none⟩) os.length os.length) os := by
  subst hn
  exact reads_lit W os C h
/-- 'v' is a slice of options of the call's own (the call began in 'w'), it holds 'os'; nothing that was there has changed. -/
def OwnsO (w wr : World) (v : Value) (os : List Opt.Op) : Prop := wr.ownsRow w.heap.size 36 2 v os.length (cellsO os) ∧ Below w.heap.size w wr
theorem OwnsO.nil (w : World) : OwnsO w w (.slice none 0 0) [] := ⟨World.ownsRow_nil _ _ _ _, Below.refl _ _⟩
theorem OwnsO.below {w W W' : World} {v : Value} {os : List Opt.Op} (h : OwnsO w W v os) (hb : Below W.heap.size W W') : OwnsO w W' v os :=
  ⟨h.1.kept (row := none) ⟨hb.os, hb.tape, hb.output, hb.size, fun k hk _ => hb.block k hk⟩ (by cases hv : v.ownBlock <;> simp), h.2.trans (hb.mono h.2.size)⟩
theorem OwnsO.reads {w W : World} {v : Value} {os : List Opt.Op} (h : OwnsO w W v os) : ReadsO W v os := by
  have hc := fun g hg => h.1.cells (g := g) hg
  rcases h.1.2 with ⟨rfl, h0⟩ | ⟨g, cap, cur, rfl, _, _, hn, _⟩
  · obtain rfl : os = [] := List.length_eq_zero_iff.1 h0
    exact reads_nil W
  · refine .inr ⟨g, 0, cap, rfl, hn, fun j u hj => ?_⟩
    have := hc g rfl j u hj
    rwa [add_lit] at this
/-- An empty slice that was just made. -/
theorem OwnsO.made (w : World) : OwnsO w (w.alloc (.cells #[] 36)) (.slice (some ⟨w.heap.size, 0, none⟩) 0 0) [] := by
  refine ⟨⟨rfl, .inr ⟨w.heap.size, 0, #[], rfl, Nat.le_refl _, ?_, Nat.le_refl _, by unfold maxLen; omega, rfl, rfl⟩⟩, (Below.refl _ _).alloc (Nat.le_refl _) _⟩
  exact heap_alloc_new _ _
theorem OwnsO.drew {w W : World} {v : Value} {os : List Opt.Op} (h : OwnsO w W v os) : OwnsO w W.drew v os := ⟨h.1, h.2.drew⟩
theorem ReadsO.drew {W : World} {v : Value} {os : List Opt.Op} (h : ReadsO W v os) : ReadsO W.drew v os := h
/-- Whatever reads as options, pushed behind a slice of the call's own: at the operation. -/
theorem one_catO {o : Oper} {a : Act} {K : Act → World → Prop} {Q : Exit → Act → World → Prop} (sl x : Operand)
    (ho : o.op = .call { callee := .builtin .append, args := #[sl, x], argTypes := #[25, 25] })
    {W w : World} (os r : List Opt.Op) {v vx : Value} (hown : OwnsO w W v os) (hr : ReadsO W vx r)
    (hs : a.eval sl = v) (hx : a.eval x = vx) (hl : (os.length + r.length) * 24 ≤ 140737488355328)
    (h : ∀ v' w', OwnsO w w' v' (os ++ r) → K (a.put o.dst v') w') : o.wp Try.prog a W K Q := by
  obtain ⟨i0, hi, hz0, hz1, hz2⟩ := info_parts infoO
  obtain ⟨hown, hb⟩ := hown
  have hsz := hb.size
  have hfin : ∀ v' w' n, n = r.length → w'.ownsRow w.heap.size 36 2 v' (os.length + n) (cellsO os ++ cellsO r) → W.grownBy w' v.ownBlock → K (a.put o.dst v') w' := by
    intro v' w' n hn hown' hgrow
    subst hn
    refine h v' w' ⟨?_, ?_⟩
    · rw [cellsO_append, List.length_append]; exact hown'
    · exact hb.grown hgrow hsz (fun k hk => (hown.lt k hk).1)
  have hcat : ∀ (ad : Addr) (cap : Nat), vx = .slice (some ad) r.length cap → (∀ j u, (cellsO r)[j]? = some u → W.cell? (ad.add j) = some u) → o.wp Try.prog a W K Q := by
    intro ad cap e hc
    subst e
    exact wp_append_own _ sl x 25 ho w.heap.size 36 i0 (.agg #[.int .i64 0, .string ⟨#[]⟩]) 2 24 Try.underlying25 hi hz0 hz1 hz2 rfl (by decide) v os.length (cellsO os) hs hown ad r.length cap (cellsO r) hx (cellsO_length r) hc (cellsO_one r) (by unfold maxLen; omega) hl hsz
      fun v' w' h1 h2 _ => hfin v' w' _ rfl h1 h2
  rcases hr with ⟨rfl, ⟨ad, cap, rfl⟩ | rfl⟩ | ⟨b, off, cap, rfl, hle, hc⟩
  · exact hcat ad cap rfl fun j u hj => by simp [cellsO] at hj
  · have hrun := run_append_owned_none (P := Try.prog) (w := W) w.heap.size 25 o.type 36 i0 2 Try.underlying25 hi v os.length (cellsO os) hown
    have h0 := h v W ⟨by rw [List.append_nil]; exact hown, hb⟩
    unfold Oper.wp
    simp [execOp, ho, resolve, invoke, builtin, hs, hx, hrun, Result.andThen]
    exact h0
  · refine hcat _ cap rfl fun j u hj => ?_
    rw [add_lit]
    exact hc j u hj
/-- .. in a plain region's list: the arm is (at_builtin; refine wp_catO rfl _ _ rfl os r hown hr rfl rfl hlen ?_; intro v' w2 hown2). -/
theorem wp_catO {ops : Array Oper} {rest : List Oper} {o : Oper} {a : Act} {Q : Exit → Act → World → Prop} (hgd : o.guard = none) (sl x : Operand)
    (ho : o.op = .call { callee := .builtin .append, args := #[sl, x], argTypes := #[25, 25] })
    {W w : World} (os r : List Opt.Op) {v vx : Value} (hown : OwnsO w W v os) (hr : ReadsO W vx r)
    (hs : a.eval sl = v) (hx : a.eval x = vx) (hl : (os.length + r.length) * 24 ≤ 140737488355328)
    (h : ∀ v' w', OwnsO w w' v' (os ++ r) → wpList Try.prog ops Q rest (a.put o.dst v') w') :
    wpList Try.prog ops Q (o :: rest) a W :=
  wpList_plain hgd fun _ hK => one_catO sl x ho os r hown hr hs hx hl fun v' w' h2 => hK _ _ (h v' w' h2)
/-- .. at a step of a region that draws: go_region_law (refine step_catO rfl _ _ rfl os r hown hr rfl rfl hlen ?_; intro v' w2 hown2). -/
theorem step_catO {ops : Array Oper} {o : Oper} {a : Act} {K : Act → World → Prop} {Q : Exit → Act → World → Prop} {E : Prop} (hgd : o.guard = none) (sl x : Operand)
    (ho : o.op = .call { callee := .builtin .append, args := #[sl, x], argTypes := #[25, 25] })
    {W w : World} (os r : List Opt.Op) {v vx : Value} (hown : OwnsO w W v os) (hr : ReadsO W vx r)
    (hs : a.eval sl = v) (hx : a.eval x = vx) (hl : (os.length + r.length) * 24 ≤ 140737488355328)
    (h : ∀ v' w', OwnsO w w' v' (os ++ r) → K (a.put o.dst v') w') :
    if Region.wanted o (yielded ops a.tmps) = true then Oper.wp Try.prog o a W K Q else E := by
  have hw : Region.wanted o (yielded ops a.tmps) = true := by simp [Region.wanted, hgd]
  rw [if_pos hw]
  exact one_catO sl x ho os r hown hr hs hx hl h
end Go.Proofs.Ytiadndcodjpijaa
