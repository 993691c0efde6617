/-
  A slice that reads as texts.
-/
import Derived.Test.YtaagfmnpeimakaaDoorTxt
namespace Go.Proofs.YtaagfmnpeimakaaDoor
open Go.RowKit
/-- 'v' is a slice that reads as the texts 'ls'. -/
def Reads (W : World) (v : Value) (ls : List (List UInt8)) : Prop := ∃ (p : Option Addr) (cap : Nat) (A : Nat → Addr), v = .slice p ls.length cap ∧
  (∀ k, k < ls.length → ∀ W' : World, (Instr.indexAt 55 v (.int .i64 (k : Int))).run Tryd.prog W' = .ok (.pointer (some (A k))) W') ∧
  ∀ k (h : k < ls.length), W.cell? (A k) = some (.string ⟨ls[k].toArray⟩)
set_option maxRecDepth 100000 in
theorem index_at (x : Addr) (n cap k : Nat) (hk : k < n) (W : World) : (Instr.indexAt 55 (.slice (some x) n cap) (.int .i64 (k : Int))).run Tryd.prog W = .ok (.pointer (some (x.add k))) W := by
  have hs : (sizeOf (Tryd.prog.elem 55)).run Tryd.prog W = .ok 1 W := Tryd.sizeOf9 W
  have e := run_indexAt_slice (P := Tryd.prog) W 55 x n cap .i64 (k : Int) Tryd.underlying55
  rw [if_pos (by omega), hs] at e
  simpa [Result.andThen] using e
theorem reads_of_cells (W : World) (x : Addr) (cap : Nat) (ls : List (List UInt8)) (h : ∀ j u, (txts ls)[j]? = some u → W.cell? (x.add j) = some u) : Reads W (.slice (some x) ls.length cap) ls :=
  ⟨_, cap, fun k => x.add k, rfl, fun k hk W' => index_at x ls.length cap k hk W', fun k hk => h k _ (by simp [txts, hk])⟩
theorem OwnsT.reads {w W : World} {v : Value} {ls : List (List UInt8)} (h : OwnsT w W v ls) : Reads W v ls := by
  have hc := fun g hg => h.1.cells (g := g) hg
  rcases h.1.2 with ⟨rfl, h0⟩ | ⟨g, cap, cur, rfl, _⟩
  · obtain rfl : ls = [] := List.length_eq_zero_iff.1 h0
    exact ⟨none, 0, fun _ => ⟨0, 0, none⟩, rfl, fun k hk => absurd hk (by simp), fun k hk => absurd hk (by simp)⟩
  · exact reads_of_cells W _ cap ls (hc g rfl)
theorem Reads.below {W W' : World} {v : Value} {ls : List (List UInt8)} (h : Reads W v ls) (hb : Below W.heap.size W W') : Reads W' v ls := by
  obtain ⟨p, cap, A, e, hi, hc⟩ := h
  exact ⟨p, cap, A, e, hi, fun k hk => (hb.cell (block_lt_of_cell (hc k hk))).trans (hc k hk)⟩
theorem take_succ_ne {ls : List (List UInt8)} (k : Nat) (h : k < ls.length) : ls.take (k + 1) = ls.take k ++ [ls[k]] := by
  rw [List.take_succ_eq_append_getElem h]
theorem own_reads {W : World} {b : Nat} {v : Value} {ls : List (List UInt8)} (h : W.ownsRow b 9 1 v ls.length (txts ls)) : Reads W v ls := by
  have hc := fun g hg => h.cells (g := g) hg
  rcases h.2 with ⟨rfl, h0⟩ | ⟨g, cap, cur, rfl, _⟩
  · obtain rfl : ls = [] := List.length_eq_zero_iff.1 h0
    exact ⟨none, 0, fun _ => ⟨0, 0, none⟩, rfl, fun k hk => absurd hk (by simp), fun k hk => absurd hk (by simp)⟩
  · exact reads_of_cells W _ cap ls (hc g rfl)
/-- A row stays while a cell of another block is written. -/
theorem set_kept {W : World} {b : Nat} {e : TypeId} {v : Value} {n : Nat} {xs : List Value} (h : W.ownsRow b e 1 v n xs) {g : Nat} (hg : v.ownBlock = some g → False) (k : Nat) (u : Value) : (W.setCell ⟨g, k, none⟩ u).ownsRow b e 1 v n xs :=
  h.kept (row := some g) ⟨rfl, rfl, rfl, by simp [World.setCell], fun j _ hj => Below.heap_setCell _ _ _ _ (fun e => hj (by simp [e]))⟩ (.inr hg)
end Go.Proofs.YtaagfmnpeimakaaDoor
