/-
  A slice of frames of a call's own: made, pushed behind, kept while other memory is made, read.
-/
import Derived.Test.YtnkkompmdngkgaaOwn
import Derived.Test.YtnkkompmdngkgaaJoin
namespace Go.Proofs.Ytnkkompmdngkgaa
open Go.RowKit
theorem infoF : (Try.prog.info? 23).map (fun i => (i.zero, i.size, i.bytes)) = some (some (.agg #[.int .i64 0, .string ⟨#[]⟩]), 2, 24) := by kernel_rfl
def cellsF (fs : List Frm.Fm) : List Value := fs.flatMap fun f => [.int .i64 (f.1 : Int), .string ⟨f.2.toArray⟩]
theorem cellsF_append (l r : List Frm.Fm) : cellsF (l ++ r) = cellsF l ++ cellsF r := by simp [cellsF]
theorem cellsF_at (fs : List Frm.Fm) : ∀ (k : Nat) (h : k < fs.length), (cellsF fs)[2 * k]? = some (.int .i64 (fs[k].1 : Int)) ∧ (cellsF fs)[2 * k + 1]? = some (.string ⟨fs[k].2.toArray⟩) := by
  induction fs with
  | nil => intro k h; simp at h
  | cons f r ih =>
    intro k h
    have e : cellsF (f :: r) = Value.int .i64 (f.1 : Int) :: Value.string ⟨f.2.toArray⟩ :: cellsF r := by simp [cellsF]
    match k, h with
    | 0, _ => rw [e]; simp
    | k + 1, h =>
      obtain ⟨h1, h2⟩ := ih k (by simpa using h)
      rw [e, show 2 * (k + 1) = 2 * k + 1 + 1 by omega]
      simp only [List.getElem?_cons_succ, List.getElem_cons_succ]
      exact ⟨h1, h2⟩
/-- 'v' is a slice of frames of the call's own (the call began in 'w'), it holds 'fs'; nothing that was there has changed. -/
def OwnsF (w wr : World) (v : Value) (fs : List Frm.Fm) : Prop := wr.ownsRow w.heap.size 23 2 v fs.length (cellsF fs) ∧ Below w.heap.size w wr
theorem OwnsF.nil (w : World) : OwnsF w w (.slice none 0 0) [] := ⟨World.ownsRow_nil _ _ _ _, Below.refl _ _⟩
theorem OwnsF.below {w W W' : World} {v : Value} {fs : List Frm.Fm} (h : OwnsF w W v fs) (hb : Below W.heap.size W W') : OwnsF w W' v fs :=
  ⟨h.1.kept (row := none) ⟨hb.os, hb.tape, hb.output, hb.size, fun k hk _ => hb.block k hk⟩ (by cases hv : v.ownBlock <;> simp), h.2.trans (hb.mono h.2.size)⟩
/-- One frame, just laid in a block, pushed behind. -/
theorem wp_pushF {ops : Array Oper} {rest : List Oper} {o : Oper} {a : Act} {Q : Exit → Act → World → Prop} (hgd : o.guard = none) (sl x : Operand)
    (ho : o.op = .call { callee := .builtin .append, args := #[sl, x], argTypes := #[41, 41] })
    {W w : World} (fs : List Frm.Fm) (p : Nat) (d : List UInt8) {v : Value} (hown : OwnsF w W v fs)
    (hs : a.eval sl = v) (hx : a.eval x = .slice (some ⟨W.heap.size, 0, none⟩) 1 1) (hl : fs.length ≤ 1073741824)
    (h : ∀ v' w', OwnsF w w' v' (fs ++ [(p, d)]) → wpList Try.prog ops Q rest (a.put o.dst v') w') :
    wpList Try.prog ops Q (o :: rest) a (W.alloc (.cells #[.int .i64 (p : Int), .string ⟨d.toArray⟩] 23)) := by
  obtain ⟨i0, hi, hz0, hz1, hz2⟩ := info_parts infoF
  obtain ⟨hown, hb⟩ := hown
  have hsz := hb.size
  refine wpList_append_own _ hgd sl x 41 ho w.heap.size 23 i0 (.agg #[.int .i64 0, .string ⟨#[]⟩]) 2 24 Try.underlying41 hi hz0 hz1 hz2 rfl (by decide) v fs.length (cellsF fs) hs (hown.alloc _) ⟨W.heap.size, 0, none⟩ 1 1 (cellsF [(p, d)]) hx (by simp [cellsF]) ?_ ?_ ?_ ?_ ?_ ?_
  · exact new_cells W _ _
  · intro u hu
    simp only [cellsF, List.flatMap_cons, List.flatMap_nil, List.append_nil, List.mem_cons, List.not_mem_nil, or_false] at hu
    rcases hu with rfl | rfl <;> rfl
  · unfold maxLen; omega
  · omega
  · simp; omega
  · intro v' w' hown' hgrow _
    refine h v' w' ⟨?_, ?_⟩
    · rw [cellsF_append, List.length_append]; exact hown'
    · exact (hb.alloc hsz _).grown hgrow (by simp; omega) (fun k hk => (hown.lt k hk).1)
/-- The slice, read: its k-th frame lies at two cells. -/
theorem OwnsF.reads {w W : World} {v : Value} {fs : List Frm.Fm} (h : OwnsF w W v fs) : ∃ (p : Option Addr) (cap : Nat) (g : Nat), v = .slice p fs.length cap ∧
    (∀ k, k < fs.length → ∀ W' : World, (Instr.indexAt 41 v (.int .i64 (k : Int))).run Try.prog W' = .ok (.pointer (some ⟨g, 2 * k, none⟩)) W') ∧
    ∀ k (h : k < fs.length), W.cell? ⟨g, 2 * k, none⟩ = some (.int .i64 (fs[k].1 : Int)) ∧ W.cell? ⟨g, 2 * k + 1, none⟩ = some (.string ⟨fs[k].2.toArray⟩) := by
  have hc := fun g hg => h.1.cells (g := g) hg
  rcases h.1.2 with ⟨rfl, h0⟩ | ⟨g, cap, cur, rfl, _⟩
  · obtain rfl : fs = [] := List.length_eq_zero_iff.1 h0
    exact ⟨none, 0, 0, rfl, fun k hk => absurd hk (by simp), fun k hk => absurd hk (by simp)⟩
  · refine ⟨_, cap, g, rfl, fun k hk W' => ?_, fun k hk => ?_⟩
    · have hs : (sizeOf (Try.prog.elem 41)).run Try.prog W' = .ok 2 W' := Try.sizeOf23 W'
      have e := run_indexAt_slice (P := Try.prog) W' 41 ⟨g, 0, none⟩ fs.length cap .i64 (k : Int) Try.underlying41
      rw [if_pos (by omega), hs] at e
      simp only [Result.andThen, Int.toNat_natCast] at e
      rw [e]
      have e2 : (⟨g, 0, none⟩ : Addr).add (k * 2) = ⟨g, 2 * k, none⟩ := by
        rw [Nat.mul_comm]
        unfold Addr.add
        split <;> simp_all
      rw [e2]
    · obtain ⟨h1, h2⟩ := cellsF_at fs k hk
      have e : ∀ j, (⟨g, 0, none⟩ : Addr).add j = ⟨g, j, none⟩ := fun j => by unfold Addr.add; split <;> simp_all
      have c1 := hc g rfl _ _ h1
      have c2 := hc g rfl _ _ h2
      rw [e] at c1 c2
      exact ⟨c1, c2⟩
end Go.Proofs.Ytnkkompmdngkgaa
