/-
  The document's own timers: a new time set.
-/
import Derived.Test.YthbbeiflkiihdaaYR4
namespace Go.Proofs.Ythbbeiflkiihdaa.Y
open Go.RowKit
/-- What a loop that writes a new row holds. -/
structure Out (B : Nat) (w1 W : World) (v : Value) (A : List Tim.T) : Prop where
  row : RowX (B + 1) W v A
  bel : Below w1.heap.size w1 W
  own : ∀ k, v.ownBlock = some k → w1.heap.size ≤ k
theorem Out.below {B : Nat} {w1 W W' : World} {v : Value} {A : List Tim.T} (h : Out B w1 W v A) (hb : Below W.heap.size W W') : Out B w1 W' v A := ⟨h.row.below hb, bel2 h.bel hb, h.own⟩
theorem Out.push {B : Nat} {w1 W w' : World} {v v' : Value} {A A' : List Tim.T} (h : Out B w1 W v A) (P : PushedX (B + 1) W v A' v' w') : Out B w1 w' v' A' :=
  ⟨P.row, h.bel.grown P.grown h.bel.size h.own, fun k hk => (P.lies k hk).elim (h.own k) (fun e => Nat.le_trans h.bel.size e)⟩
theorem readsX_one (w : World) (a b : Int) (n : Nat) (hn : w.heap.size = n) : ReadsX (w.alloc (.cells #[.int .i64 a, .int .i64 b] 44)) (.slice (some ⟨n, 0, none⟩) 1 1) [(a, b)] := by
  subst hn
  refine .inr ⟨_, 0, 1, rfl, fun j u hj => ?_⟩
  rw [Nat.zero_add]
  exact (Blk.new w [.int .i64 a, .int .i64 b] 44).cell j u (by simpa [cellsT] using hj)
/-- How far the row is written. -/
def Far (y : Tim.T) (S : List Tim.T) (d : Bool) (k : Nat) (pre : List Tim.T) : Prop := (d = false → pre ++ Tim.ins y (S.drop k) = Tim.ins y S) ∧ (d = true → pre ++ S.drop k = Tim.ins y S)
end Go.Proofs.Ythbbeiflkiihdaa.Y
