/-
  General: a slice of structs of one-cell fields that came in, opened at every index.
-/
import Derived.Deep.Slices
import Derived.Deep.SlicePairs
import Derived.ChangeSame
import Derived.Test.YtaagfmnpeimakaaDoorOwn
namespace Go.Proofs.YtaagfmnpeimakaaDoor
open Go.ChangeShapes Go.WideShapes Go.Deep
section
variable {H : Type} {enc : TypeId × Value → H} {P : Program} {w : World} {base : Nat} {spare : Nat → Bool} {held : Bool}
theorem open_flat {t e : TypeId} {fs : Array Field} {fuel : Nat} {cs : List Value} {x : DataW H × List MemPlace} (ht : P.underlying t = some (.slice e)) (he : P.underlying e = some (.struct fs)) (ce : P.cellsOf e = fs.size)
    (hf : ((List.range fs.size).all fun j => match fs[j]? with | some f => f.offset == j && P.cellsOf f.type == 1 | none => true) = true) (h : DataW.trod enc P w base spare held fuel t cs = some x) :
    (cs = [.slice none 0 0] ∧ x = (.nil, [])) ∨
    ∃ (a : Addr) (len cap m n : Nat) (D : Nat → DataW H) (q : List MemPlace), cs = [.slice (some a) len cap] ∧ base ≤ a.block ∧ len ≤ cap ∧ cap ≤ maxLen ∧ m = (if spare a.block then cap else len) ∧
      x = (.slice ((List.range len).map D) ((List.range (m - len)).map fun j => D (len + j)), q) ∧
      ∀ i, i < m → ∃ ys : List (DataW H × List MemPlace), ys.length = fs.size ∧ D i = .agg (ys.map (·.1)) ∧ ∀ (j : Nat) (f : Field), fs[j]? = some f → ∃ v y, w.cell? (a.add (i * fs.size + j)) = some v ∧ ys[j]? = some y ∧ DataW.trod enc P w base spare held n f.type [v] = some y := by
  rcases open_slice ht h with h0 | ⟨a, len, cap, m, n, D, Pl, rfl, hb, hl, hm, hmm, rfl, hx⟩
  · exact Or.inl h0
  right
  refine ⟨a, len, cap, m, n - 1, D, _, rfl, hb, hl, hm, hmm, rfl, fun i hi => ?_⟩
  obtain ⟨cs', h1, h2⟩ := hx i hi
  rw [ce] at h1
  obtain ⟨_, hlen, hcell⟩ := World.cells?_some h1
  obtain ⟨xs, k, hk, hxy, _, hxl, hfs⟩ := DataW.trod_struct he h2
  have hk' : k = n - 1 := by omega
  subst hk'
  simp only [Prod.mk.injEq] at hxy
  refine ⟨xs, hxl, hxy.1, fun j f hj => ?_⟩
  have g := hfs j f hj
  have hjl : j < fs.size := by
    rcases Nat.lt_or_ge j fs.size with h | h
    · exact h
    · rw [Array.getElem?_eq_none h] at hj; cases hj
  obtain ⟨o, c⟩ : f.offset = j ∧ P.cellsOf f.type = 1 := by
    have := List.all_eq_true.1 hf j (List.mem_range.2 hjl)
    rw [hj] at this
    simpa using this
  rw [o, c, List.drop_eq_getElem_cons (by omega), List.take_succ_cons, List.take_zero] at g
  have e := hcell j (by omega)
  rw [add_add] at e
  rw [List.getElem?_eq_getElem (by omega)] at e
  obtain ⟨y, hy⟩ : ∃ y, xs[j]? = some y := ⟨xs[j]'(by omega), List.getElem?_eq_getElem (by omega)⟩
  rw [hy] at g
  exact ⟨_, y, e, hy, g⟩
end
end Go.Proofs.YtaagfmnpeimakaaDoor
