/-
  A slice of integers that came in: opened as a list; what the reach gives.
-/
import Derived.Test.YtjkkoojgdnoecaaInts
import Derived.ChangeSlices
import Derived.SizedLaws
import Derived.KernelRfl
namespace Go.Proofs.Ytjkkoojgdnoecaa
open Go.ChangeShapes Go.WideShapes
theorem open_intsI {H : Type} {enc : TypeId × Value → H} {W : World} {base fuel : Nat} {x : DataW H × List MemPlace} {p : Option Addr} {len cap : Nat}
    (h : DataW.trod enc Try.prog W base (fun _ => true) true fuel 37 [.slice p len cap] = some x) :
    ∃ zs : List Int, ReadsI W (.slice p len cap) zs ∧ ((x.1 = .nil ∧ zs = []) ∨ ∃ sp, x.1 = .slice (lits .i64 zs) sp) := by
  rcases open_ints Try.underlying37 Try.underlying3 (by kernel_rfl) h with ⟨hcs, hx⟩ | ⟨a, l, c, zs, hcs, _, hl, hm, hz, hx, hcell, _⟩
  · simp only [List.cons.injEq, and_true, Value.slice.injEq] at hcs
    obtain ⟨rfl, rfl, rfl⟩ := hcs
    subst hx
    exact ⟨[], .inl ⟨rfl, .inr rfl⟩, .inl ⟨rfl, rfl⟩⟩
  · simp only [List.cons.injEq, and_true, Value.slice.injEq] at hcs
    obtain ⟨rfl, rfl, rfl⟩ := hcs
    simp only [if_true] at hz
    have hn : (zs.take len).length = len := by rw [List.length_take, hz]; omega
    subst hx
    refine ⟨zs.take len, ?_, .inr ⟨_, rfl⟩⟩
    by_cases h0 : len = 0
    · subst h0
      exact .inl ⟨rfl, .inl ⟨_, _, rfl⟩⟩
    · obtain ⟨b, off, sp⟩ := a
      have hsp : sp = none := by
        have h := hcell 0 (by omega)
        simp only [Addr.add, if_true, World.cell?] at h
        split at h
        · cases sp with
          | none => rfl
          | some _ => simp at h
        · cases h
      subst hsp
      refine .inr ⟨b, off, cap, by rw [hn], by rw [hn]; exact hl, cellsI_of _ (fun j u => W.cell? ⟨b, off + j, none⟩ = some u) fun k hk => ?_⟩
      rw [hn] at hk
      have h := hcell k (by omega)
      rw [add_at] at h
      rw [h, List.getElem_take]
      have hk2 : k < zs.length := by omega
      simp [List.getD, hk2]
/-- What the reach gives. -/
theorem reach_ints {H : Type} {ts : List TypeId} {ds : List (DataW H)} (hz : (DataW.weightsEach Try.prog ts ds).all (· ≤ reachBytes) = true) {j : Nat} {d : DataW H} {zs : List Int}
    (ht : ts[j]? = some 37) (hd : ds[j]? = some d) (hx : (d = .nil ∧ zs = []) ∨ ∃ sp, d = .slice (lits .i64 zs) sp) : zs.length * 8 ≤ 140737488351232 := by
  rcases hx with ⟨_, rfl⟩ | ⟨sp, rfl⟩
  · simp
  · have hb : Try.prog.bytesOf 3 = 8 := by kernel_rfl
    have h1 := sized_slice hz ht hd Try.underlying37
    rw [hb] at h1
    have hr : reachBytes = 140737488351232 := by decide
    rw [hr] at h1
    have hl : (lits (H := H) .i64 zs).length = zs.length := by simp [lits]
    rw [hl] at h1
    have : zs.length * 8 ≤ (zs.length + sp.length) * 8 := Nat.mul_le_mul_right _ (by omega)
    omega
end Go.Proofs.Ytjkkoojgdnoecaa
