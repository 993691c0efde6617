/-
  A slice of integers that came in.
-/
import Derived.Test.YtnkkompmdngkgaaProg
import Derived.WalkKit
namespace Go.Proofs.Ytnkkompmdngkgaa
open Go.RowKit
/-- nil, or a row of cells that hold the integers. -/
def IntsIn (W : World) (v : Value) (zs : List Int) : Prop := (v = .slice none 0 0 ∧ zs = []) ∨
  ∃ a cap, v = .slice (some a) zs.length cap ∧ ∀ i, i < zs.length → W.cell? (a.add i) = some (.int .i64 (zs.getD i 0))
theorem int_index (x : Addr) (n cap k : Nat) (hk : k < n) (W : World) : (Instr.indexAt 39 (.slice (some x) n cap) (.int .i64 (k : Int))).run Try.prog W = .ok (.pointer (some (x.add k))) W := by
  have hs : (sizeOf (Try.prog.elem 39)).run Try.prog W = .ok 1 W := Try.sizeOf3 W
  have e := run_indexAt_slice (P := Try.prog) W 39 x n cap .i64 (k : Int) Try.underlying39
  rw [if_pos (by omega), hs] at e
  simpa [Result.andThen] using e
/-- As the walks take it: where each lies, and what lies there. -/
theorem IntsIn.reads {W : World} {v : Value} {zs : List Int} (h : IntsIn W v zs) : ∃ (p : Option Addr) (cap : Nat) (B : Nat → Addr), v = .slice p zs.length cap ∧
    (∀ k, k < zs.length → ∀ W' : World, (Instr.indexAt 39 (.slice p zs.length cap) (.int .i64 (k : Int))).run Try.prog W' = .ok (.pointer (some (B k))) W') ∧
    ∀ k, k < zs.length → W.cell? (B k) = some (.int .i64 (zs.getD k 0)) ∧ (B k).block < W.heap.size := by
  rcases h with ⟨rfl, rfl⟩ | ⟨a, cap, rfl, hc⟩
  · exact ⟨none, 0, fun _ => ⟨0, 0, none⟩, rfl, fun k hk => absurd hk (by simp), fun k hk => absurd hk (by simp)⟩
  · exact ⟨some a, cap, fun k => a.add k, rfl, fun k hk W' => int_index a _ cap k hk W', fun k hk => ⟨hc k hk, block_lt_of_cell (hc k hk)⟩⟩
end Go.Proofs.Ytnkkompmdngkgaa
