/-
  Links in blocks of their own: out of a block, into one, as a walk's steps; what a program's policy must be for the walks.
-/
import Derived.Test.YtiadndcodjpijaaArr
import Derived.Test.YtiadndcodjpijaaEqL
import Derived.Test.YtiadndcodjpijaaOpts
import Derived.Test.YtiadndcodjpijaaPoNum
namespace Go.Proofs.Ytiadndcodjpijaa.Pl
open Go.RowKit
def lcs (l : Pol.Lk) : List Value := [.int .i64 l.mru, .int .i64 l.magic, .int .i64 l.mrru, .bool l.short, .string ⟨l.disc.toArray⟩, .int .i64 l.num]
theorem infoL : (Try.prog.info? 23).map (·.size) = some 6 := by kernel_rfl
/-- Block 'B' holds this link. -/
def Lnk (B : Nat) (w : World) (l : Pol.Lk) : Prop := Arr B w (lcs l)
theorem Lnk.lt {B : Nat} {w : World} {l : Pol.Lk} (h : Lnk B w l) : B < w.heap.size := Arr.lt h
theorem Lnk.below {B : Nat} {w w' : World} {l : Pol.Lk} (h : Lnk B w l) (k : Below w.heap.size w w') : Lnk B w' l := Arr.below h k
theorem Lnk.new (w : World) (l : Pol.Lk) : Lnk w.heap.size (w.alloc (.cells (lcs l).toArray 23)) l := Arr.new w (lcs l) 23
theorem Lnk.new_at (w : World) (l : Pol.Lk) (B : Nat) (hB : B = w.heap.size) : Lnk B (w.alloc (.cells (lcs l).toArray 23)) l := hB ▸ Lnk.new w l
theorem Lnk.grown {B : Nat} {w w' : World} {l : Pol.Lk} {r : Option Nat} (h : Lnk B w l) (k : w.grownBy w' r) (hne : some B ≠ r) : Lnk B w' l := Arr.grown h k hne
theorem Lnk.load {B : Nat} {w : World} {l : Pol.Lk} (h : Lnk B w l) : (loadVar 23 ⟨B, 0, none⟩).run Try.prog w = .ok (lv l) w := by
  obtain ⟨t', h⟩ := h
  exact run_loadVar_row w B t' 23 (lcs l).toArray (0, 0) _ h Try.underlying23 rfl infoL
theorem Lnk.store {B : Nat} {w : World} {l : Pol.Lk} (h : Lnk B w l) (m : Pol.Lk) : ∃ w', (storeVar 23 ⟨B, 0, none⟩ (lv m)).run Try.prog w = .ok () w' ∧ Lnk B w' m ∧ w.grownBy w' (some B) :=
  Arr.store (ds := lcs m) h 23 infoL rfl (by intro v hv; simp [lcs] at hv; rcases hv with rfl | rfl | rfl | rfl | rfl | rfl <;> rfl)
section
variable {ops : Array Oper} {rest : List Oper} {o : Oper} {a : Act} {Q : Exit → Act → World → Prop} {w : World}
/-- A link out of its block, be the step guarded or not. -/
theorem step_link (hw : Region.wanted o (yielded ops a.tmps) = true) (x : Operand) (ho : o.op = .load 23 x) (B : Nat) (l : Pol.Lk) (hx : a.eval x = .pointer (some ⟨B, 0, none⟩)) (hl : Lnk B w l)
    (h : wpList Try.prog ops Q rest (a.put o.dst (lv l)) w) : wpList Try.prog ops Q (o :: rest) a w := by
  refine wpList_step fun _ hK => ?_
  rw [if_pos hw]
  unfold Oper.wp execOp
  simp only [ho, Instr.loadAt, hx, Instr.sureAddr, Sem.run_bind, Sem.run_pure, Result.andThen_ok, hl.load]
  exact hK _ _ h
/-- A link into a block. -/
theorem step_keep (hgd : o.guard = none) (x y : Operand) (ho : o.op = .store 23 x y) (B : Nat) (l m : Pol.Lk) (hx : a.eval x = .pointer (some ⟨B, 0, none⟩)) (hy : a.eval y = lv m) (hl : Lnk B w l)
    (h : ∀ w', Lnk B w' m → w.grownBy w' (some B) → wpList Try.prog ops Q rest (a.put o.dst undef) w') : wpList Try.prog ops Q (o :: rest) a w := by
  obtain ⟨w', hs, h1, h2⟩ := hl.store m
  exact wpList_store hgd 23 x y ho _ _ w' hx hy hs (h w' h1 h2)
end
theorem guard_lv (op : BinOp) (x y : Operand) (l m : Pol.Lk) (W : World) : (eqGuard op 23 x y (lv l) (lv m)).run Try.prog W = .ok () W := by
  have h := guardL
  unfold lv
  cases op <;> first | rfl | simp [go_sem, h]
theorem reads_pos {W : World} {v : Value} {os : List Pol.Op} (h : ReadsO W v os) (h0 : 0 < os.length) : ∃ b off cap, v = .slice (some ⟨b, off, none⟩) os.length cap := by
  rcases h with ⟨rfl, _⟩ | ⟨b, off, cap, rfl, _, _⟩
  · simp at h0
  · exact ⟨b, off, cap, rfl⟩
theorem reads_form {W : World} {v : Value} {os : List Pol.Op} (h : ReadsO W v os) : ∃ p cap, v = .slice p os.length cap := by
  obtain ⟨p, cap, _, _, e, _⟩ := h.at
  exact ⟨p, cap, e⟩
theorem reads_cells {W : World} {b off n cap : Nat} {os : List Pol.Op} (h : ReadsO W (.slice (some ⟨b, off, none⟩) n cap) os) (k : Nat) (hk : k < os.length) :
    W.cell? ⟨b, off + 2 * k, none⟩ = some (.int .i64 os[k].1) ∧ W.cell? ⟨b, off + 2 * k + 1, none⟩ = some (.string ⟨os[k].2.toArray⟩) := by
  rcases h with ⟨rfl, _⟩ | ⟨b', off', cap', e, _, hc⟩
  · simp at hk
  · simp only [Value.slice.injEq, Option.some.injEq, Addr.mk.injEq, and_true] at e
    obtain ⟨⟨rfl, rfl⟩, _, rfl⟩ := e
    exact ⟨hc _ _ (cellsO_at os k hk).1, hc _ _ (cellsO_at os k hk).2⟩
/-- A store into a block that is new changes nothing that was there. -/
theorem kept_new {W W' : World} {o : Obj} {B : Nat} (hB : B = W.heap.size) (k : (W.alloc o).grownBy W' (some B)) : Below W.heap.size W W' :=
  below_of_grown ((Below.refl W.heap.size W).alloc (Nat.le_refl _) o) k (Nat.le_of_eq hB.symm) rfl
/-- What the walks want of the program's policy, in every world behind 'w0'. -/
structure PolOk (w0 : World) : Prop where
  ask : ∀ l W, Below w0.heap.size w0 W → Calls Try.prog 10 #[lv l] W fun e w' => ∃ v, e = .returned (.tuple #[v, .int .i64 (Pol.ask l).2]) ∧ ReadsO w' v (Pol.ask l).1 ∧ Below W.heap.size W w'
  judge : ∀ own v os W, Below w0.heap.size w0 W → ReadsO W v os → os.length ≤ 1000000 → Calls Try.prog 13 #[lv own, v] W fun e w' => ∃ u, e = .returned (.tuple #[.int .i64 (Pol.judge nm own os).1, u, .int .i64 (Pol.judge nm own os).2.2]) ∧ ReadsO w' u (Pol.judge nm own os).2.1 ∧ Below W.heap.size W w'
  learn : ∀ l code v os W, Below w0.heap.size w0 W → ReadsO W v os → os.length * 24 ≤ 140737488351232 → (∀ o ∈ os, o.2.length ≤ 140737488351232) → Calls Try.prog 16 #[lv l, .int .i64 code, v] W fun e w' => e = .returned (.tuple #[lv (Pol.learn nm l code os).1, .int .i64 (Pol.learn nm l code os).2]) ∧ Below W.heap.size W w'
  taken : ∀ v os W, Below w0.heap.size w0 W → ReadsO W v os → os.length ≤ 1000000 → (∀ o ∈ os, 0 ≤ o.1 ∧ o.1 ≤ 255) → (∀ o ∈ os, o.2.length ≤ 1000000) → Calls Try.prog 12 #[v] W fun e w' => e = .returned (.tuple #[lv (Pol.taken nm os).1, .int .i64 (Pol.taken nm os).2]) ∧ Below W.heap.size W w'
theorem PolOk.later {w0 w1 : World} (h : PolOk w0) (hb : Below w0.heap.size w0 w1) : PolOk w1 :=
  ⟨fun l W k => h.ask l W (bel2 hb k), fun own v os W k => h.judge own v os W (bel2 hb k), fun l code v os W k => h.learn l code v os W (bel2 hb k), fun v os W k => h.taken v os W (bel2 hb k)⟩
end Go.Proofs.Ytiadndcodjpijaa.Pl
