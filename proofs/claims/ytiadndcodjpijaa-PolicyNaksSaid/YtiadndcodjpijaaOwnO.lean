/-
  General: a slice of options of the call's own, while later blocks are written.
-/
import Derived.Test.YtiadndcodjpijaaOpts
import Derived.Test.YtiadndcodjpijaaText
import Derived.Deep.Onto
namespace Go.Proofs.Ytiadndcodjpijaa
open Go.RowKit
theorem OwnsO.base {w w1 W : World} {v : Value} {os : List Opt.Op} (h : OwnsO w1 W v os) (k : Below w.heap.size w w1) : OwnsO w W v os := ⟨h.1.mono k.size, bel2 k h.2⟩
theorem OwnsO.setCell {w W : World} {v : Value} {os : List Opt.Op} (h : OwnsO w W v os) {p : Addr} (hp : w.heap.size ≤ p.block) (hne : ∀ k, v.ownBlock = some k → p.block < k) (u : Value) : OwnsO w (W.setCell p u) v os := by
  refine ⟨h.1.kept (grown_cell W p u) ?_, h.2.setCell hp u⟩
  cases hv : v.ownBlock with
  | none => exact .inl rfl
  | some k =>
    refine .inr fun e => ?_
    have := hne k hv
    simp only [Option.some.injEq] at e
    omega
theorem OwnsO.setOther {w W : World} {v : Value} {os : List Opt.Op} (h : OwnsO w W v os) {p : Addr} (hp : w.heap.size ≤ p.block) (hne : ∀ k, v.ownBlock = some k → k < p.block) (u : Value) : OwnsO w (W.setCell p u) v os := by
  refine ⟨h.1.kept (grown_cell W p u) ?_, h.2.setCell hp u⟩
  cases hv : v.ownBlock with
  | none => exact .inl rfl
  | some k =>
    refine .inr fun e => ?_
    have := hne k hv
    simp only [Option.some.injEq] at e
    omega
/-- The blocks of a slice of a later call's own lie behind. -/
theorem OwnsO.above {w1 W : World} {v : Value} {os : List Opt.Op} (h : OwnsO w1 W v os) {b : Nat} (hb : b < w1.heap.size) : ∀ k, v.ownBlock = some k → b < k := fun k hk => Nat.lt_of_lt_of_le hb (h.1.lt k hk).1
theorem OwnsO.form2 {w W : World} {v : Value} {os : List Opt.Op} (h : OwnsO w W v os) : ∃ p cap, v = .slice p os.length cap := by
  obtain ⟨p, cap, _, _, h, _⟩ := h.reads.at
  exact ⟨p, cap, h⟩
end Go.Proofs.Ytiadndcodjpijaa
