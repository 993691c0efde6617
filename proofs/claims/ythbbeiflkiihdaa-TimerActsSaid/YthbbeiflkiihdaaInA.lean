/-
  A slice of acts (three integers each) that came in: opened as a list.
-/
import Derived.Test.YthbbeiflkiihdaaYH
import Derived.Test.YthbbeiflkiihdaaFlat
import Derived.KernelRfl
namespace Go.Proofs.Ythbbeiflkiihdaa
open Go.ChangeShapes Go.WideShapes Go.Deep
def intZ : Option Value → Int | some (.int _ n) => n | _ => 0
theorem open_acts {H : Type} {enc : TypeId × Value → H} {W : World} {base fuel : Nat} {x : DataW H × List MemPlace} {p : Option Addr} {len cap : Nat}
    (h : DataW.trod enc Try.prog W base (fun _ => true) true fuel 22 [.slice p len cap] = some x) : ∃ l : List (Int × Int × Int), Y.ReadsA W (.slice p len cap) l := by
  rcases open_flat Try.underlying22 Try.underlying30 (by kernel_rfl) (by kernel_rfl) h with ⟨hcs, _⟩ | ⟨a, len2, c, m, n, D, q, hcs, _, hl, _, hm, _, hi⟩
  · simp only [List.cons.injEq, and_true, Value.slice.injEq] at hcs
    obtain ⟨rfl, rfl, rfl⟩ := hcs
    exact ⟨[], none, 0, rfl, 0, 0, fun k hk => absurd hk (Nat.not_lt_zero k)⟩
  · simp only [List.cons.injEq, and_true, Value.slice.injEq] at hcs
    obtain ⟨rfl, rfl, rfl⟩ := hcs
    simp only [if_true] at hm
    subst hm
    have each : ∀ i, i < m → ∀ j, j < 3 → W.cell? (a.add (i * 3 + j)) = some (.int .i64 (intZ (W.cell? (a.add (i * 3 + j))))) := by
      intro i him j hj
      obtain ⟨ys, _, _, hf⟩ := hi i him
      match j, hj with
      | 0, _ =>
        obtain ⟨v, y, e, _, g⟩ := hf 0 _ rfl
        obtain ⟨z, e0, _⟩ := DataW.trod_int Try.underlying3 g
        simp only [List.cons.injEq, and_true] at e0
        subst e0
        have e : W.cell? (a.add (i * 3 + 0)) = some (.int .i64 z) := e
        rw [e]; rfl
      | 1, _ =>
        obtain ⟨v, y, e, _, g⟩ := hf 1 _ rfl
        obtain ⟨z, e0, _⟩ := DataW.trod_int Try.underlying3 g
        simp only [List.cons.injEq, and_true] at e0
        subst e0
        have e : W.cell? (a.add (i * 3 + 1)) = some (.int .i64 z) := e
        rw [e]; rfl
      | 2, _ =>
        obtain ⟨v, y, e, _, g⟩ := hf 2 _ rfl
        obtain ⟨z, e0, _⟩ := DataW.trod_int Try.underlying3 g
        simp only [List.cons.injEq, and_true] at e0
        subst e0
        have e : W.cell? (a.add (i * 3 + 2)) = some (.int .i64 z) := e
        rw [e]; rfl
    have hlen : ((List.range len).map fun i => (intZ (W.cell? (a.add (i * 3 + 0))), intZ (W.cell? (a.add (i * 3 + 1))), intZ (W.cell? (a.add (i * 3 + 2))))).length = len := by simp
    refine ⟨(List.range len).map fun i => (intZ (W.cell? (a.add (i * 3 + 0))), intZ (W.cell? (a.add (i * 3 + 1))), intZ (W.cell? (a.add (i * 3 + 2)))), some a, m, by rw [hlen], a.block, a.off, fun k hk => ?_⟩
    have hk2 : k < len := by simpa using hk
    obtain ⟨b, off, sp⟩ := a
    have hsp : sp = none := by
      have h := each 0 (by omega) 0 (by decide)
      simp only [Nat.zero_mul, Nat.add_zero, Addr.add, if_true, World.cell?] at h
      split at h
      · cases sp with
        | none => rfl
        | some _ => simp at h
      · cases h
    subst hsp
    have e0 := each k (by omega) 0 (by decide)
    have e1 := each k (by omega) 1 (by decide)
    have e2 := each k (by omega) 2 (by decide)
    simp only [add_at, Nat.mul_comm k 3, Nat.add_zero, ← Nat.add_assoc] at e0 e1 e2
    refine ⟨rfl, Y.indexA b off len m k hk2, ?_, ?_, ?_⟩
    · simpa [add_at, Nat.mul_comm k 3] using e0
    · simpa [add_at, Nat.mul_comm k 3, ← Nat.add_assoc] using e1
    · simpa [add_at, Nat.mul_comm k 3, ← Nat.add_assoc] using e2
end Go.Proofs.Ythbbeiflkiihdaa
