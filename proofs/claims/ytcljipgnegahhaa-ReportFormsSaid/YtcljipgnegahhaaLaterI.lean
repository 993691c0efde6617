/-
  Slices of integers of the call's own, made one after another: what is written over in one leaves the later one; a slice that came in read anew.
-/
import Derived.Test.YtcljipgnegahhaaLendI
namespace Go.Proofs.Ytcljipgnegahhaa
open Go.RowKit
theorem rowI_reads {W : World} {base : Nat} {v : Value} {zs : List Int} (h : W.ownsRow base 3 1 v zs.length (cellsI zs)) : ReadsI W v zs := by
  have hc := fun g hg => h.cells (g := g) hg
  rcases h.2 with ⟨rfl, h0⟩ | ⟨g, cap, cur, rfl, _, _, hn, _⟩
  · obtain rfl : zs = [] := List.length_eq_zero_iff.1 h0
    exact readsI_nil W
  · refine .inr ⟨g, 0, cap, rfl, hn, fun j u hj => ?_⟩
    have := hc g rfl j u hj
    rwa [add_at] at this
/-- What is written over in a slice made earlier leaves one made later as it was. -/
theorem laterI {w4 W W' : World} {c d : Value} {M : List Int} (hcl : ∀ k, c.ownBlock = some k → k < w4.heap.size) (hd : OwnsI w4 W d M) (hg : W.grownBy W' c.ownBlock) : ReadsI W' d M := by
  refine rowI_reads (hd.1.kept hg ?_)
  cases h : d.ownBlock with
  | none => exact .inl rfl
  | some k =>
    refine .inr fun e => ?_
    have h1 := hcl k e.symm
    have h2 := (hd.1.lt k h).1
    omega
end Go.Proofs.Ytcljipgnegahhaa
