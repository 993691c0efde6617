/-
  Slices of options of the call's own, made one after another: what is written over in one leaves the later one; the front of a lent one.
-/
import Derived.Test.YtmonoicdejallaaSpoilO
namespace Go.Proofs.Ytmonoicdejallaa.O
open Go.RowKit
theorem row_reads {W : World} {base : Nat} {v : Value} {os : List Opt.Op} (h : W.ownsRow base 46 2 v os.length (cellsO os)) : ReadsO W v os := by
  have hc := fun g hg => h.cells (g := g) hg
  rcases h.2 with ⟨rfl, h0⟩ | ⟨g, cap, cur, rfl, _, _, hn, _⟩
  · obtain rfl : os = [] := List.length_eq_zero_iff.1 h0
    exact reads_nil W
  · refine .inr ⟨g, 0, cap, rfl, hn, fun j u hj => ?_⟩
    have := hc g rfl j u hj
    rwa [add_lit] at this
/-- What is written over in a slice made earlier leaves one made later as it was. -/
theorem later {w4 W W' : World} {c d : Value} {M : List Opt.Op} (hcl : ∀ k, c.ownBlock = some k → k < w4.heap.size) (hd : OwnsO w4 W d M) (hg : W.grownBy W' c.ownBlock) : ReadsO W' d M := by
  refine row_reads (hd.1.kept hg ?_)
  cases h : d.ownBlock with
  | none => exact .inl rfl
  | some k =>
    refine .inr fun e => ?_
    have h1 := hcl k e.symm
    have h2 := (hd.1.lt k h).1
    omega
theorem same_yes (va vb : Value) (L : List Opt.Op) (W : World) (ha : ReadsO W va L) (hb : ReadsO W vb L) (hl : L.length ≤ 4611686018427387904) :
    Calls Try.prog 28 #[va, vb] W fun e w' => e = .returned (.bool true) ∧ Below W.heap.size W w' := by
  have h := sameO_any va vb L L W ha hb hl hl
  rwa [show decide (L = L) = true by simp] at h
/-- The front of a slice with marked room reads as what was lent. -/
theorem reads_front {W : World} {g cap : Nat} {os : List Opt.Op} (h : ReadsO W (.slice (some ⟨g, 0, none⟩) (os.length + 2) cap) (os ++ [markO, markO])) : ReadsO W (.slice (some ⟨g, 0, none⟩) os.length cap) os := by
  rcases h with ⟨h, _⟩ | ⟨b, off, cap', hv, hl, hc⟩
  · simp at h
  · simp only [Value.slice.injEq, Option.some.injEq, Addr.mk.injEq] at hv
    obtain ⟨⟨rfl, rfl, _⟩, _, rfl⟩ := hv
    refine .inr ⟨g, 0, cap, rfl, by simp at hl; omega, fun j u hj => hc j u ?_⟩
    rw [cellsO_append, List.getElem?_append_left (List.getElem?_eq_some_iff.1 hj).1]
    exact hj
end Go.Proofs.Ytmonoicdejallaa.O
