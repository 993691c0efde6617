/-
  Timers as a sorted list beside two tables over 64 ids: the last time of each, and whether it is set.
-/
import Derived.Test.YtjkkoojgdnoecaaTList
namespace Go.Proofs.Ytjkkoojgdnoecaa.Tim
structure Tab (S : List T) (la : List Int) (hs : List Bool) : Prop where
  ll : la.length = 64
  hl : hs.length = 64
  cnt : hs.count true = S.length
  is : ∀ k : Nat, k < 64 → (hs[k]? = some true ↔ has S k = true)
  mem : ∀ x ∈ S, ∃ k t : Nat, k < 64 ∧ t < 1024 ∧ x = ((k : Int), (t : Int)) ∧ la[k]? = some (t : Int)
theorem tab_nil : Tab [] (List.replicate 64 0) (List.replicate 64 false) :=
  ⟨by simp, by simp, by decide, fun k hk => by
    rw [List.getElem?_replicate, if_pos hk]
    simp [has], fun x hx => by cases hx⟩
theorem tab_set {S : List T} {la : List Int} {hs : List Bool} (h : Tab S la hs) (hok : Ok S) (k t : Nat) (hk : k < 64) (ht : t < 1024) :
    ∃ S', set S k t = (S', 0) ∧ Tab S' (la.set k t) (hs.set k true) := by
  have hkl : k < la.length := by rw [h.ll]; exact hk
  have hkh : k < hs.length := by rw [h.hl]; exact hk
  have hfew : S.length ≤ 64 := by rw [← h.cnt, ← h.hl]; exact List.count_le_length
  have key : hs.count true = S.length → (hs.set k true).count true = (ins ((k : Int), (t : Int)) (del S k)).length ∧ set S k t = (ins ((k : Int), (t : Int)) (del S k), 0) := by
    intro hc
    rw [ins_length]
    by_cases hh : has S k = true
    · obtain ⟨y, hy, he⟩ := (has_iff S k).1 hh
      have h1 := del_less y hok.ids hy
      rw [he] at h1
      have h2 := (h.is k hk).2 hh
      have h3 : hs.set k true = hs := by
        apply List.ext_getElem?
        intro j
        rw [List.getElem?_set]
        split
        · rename_i e
          subst e
          exact h2.symm
        · rfl
      refine ⟨by rw [h3, hc]; exact h1.symm, ?_⟩
      unfold set
      rw [if_neg (by omega), if_pos hh]
    · have hf : has S k = false := by simpa using hh
      have h1 : del S k = S := del_none S k ((has_false S k).1 hf)
      have h2 : hs[k]? ≠ some true := fun e => hh ((h.is k hk).1 e)
      have h3 : hs[k] = false := by
        rw [List.getElem?_eq_getElem hkh] at h2
        simpa using h2
      refine ⟨?_, ?_⟩
      · rw [List.count_set hkh, h3, hc, h1]
        simp
      · unfold set
        rw [if_neg (by omega), if_neg (by rw [hf]; simp), if_neg (by omega), h1]
  obtain ⟨hc, he⟩ := key h.cnt
  refine ⟨_, he, by rw [List.length_set]; exact h.ll, by rw [List.length_set]; exact h.hl, hc, fun j hj => ?_, fun x hx => ?_⟩
  · have hj1 : (hs.set k true)[j]? = some true ↔ (j = k ∨ hs[j]? = some true) := by
      rw [List.getElem?_set]
      by_cases e : k = j
      · subst e
        simp [hkh]
      · rw [if_neg e]
        exact ⟨.inr, fun h => h.resolve_left fun e2 => e e2.symm⟩
    rw [hj1, h.is j hj, has_iff, has_iff]
    constructor
    · rintro (rfl | ⟨x, hx, e⟩)
      · exact ⟨_, (ins_mem _ _ _).2 (.inl rfl), rfl⟩
      · by_cases e2 : j = k
        · subst e2
          exact ⟨_, (ins_mem _ _ _).2 (.inl rfl), rfl⟩
        · exact ⟨x, (ins_mem _ _ _).2 (.inr ((del_mem _ _ _).2 ⟨hx, by rw [e]; omega⟩)), e⟩
    · rintro ⟨x, hx, e⟩
      rcases (ins_mem _ _ _).1 hx with rfl | hx
      · left
        have e : (k : Int) = (j : Int) := e
        omega
      · exact .inr ⟨x, ((del_mem _ _ _).1 hx).1, e⟩
  · rcases (ins_mem _ _ _).1 hx with rfl | hx
    · exact ⟨k, t, hk, ht, rfl, by rw [List.getElem?_set]; simp [hkl]⟩
    · obtain ⟨hx, hne⟩ := (del_mem _ _ _).1 hx
      obtain ⟨j, u, hj, hu, rfl, hl⟩ := h.mem x hx
      refine ⟨j, u, hj, hu, rfl, ?_⟩
      have hne : (j : Int) ≠ (k : Int) := hne
      rw [List.getElem?_set, if_neg (by omega)]
      exact hl
theorem due_all : ∀ (S : List T) (n : Int), (∀ x ∈ S, x.2 ≤ n) → due S n = ([], S.map (·.1))
  | [], _, _ => rfl
  | x :: S, n, h => by
    rw [due_step x S n (h x (List.mem_cons_self ..)), due_all S n fun y hy => h y (List.mem_cons_of_mem _ hy)]
    rfl
theorem tab_due {S : List T} {la : List Int} {hs : List Bool} (h : Tab S la hs) : due S 1023 = ([], S.map (·.1)) := due_all S _ fun x hx => by
  obtain ⟨k, t, _, ht, rfl, _⟩ := h.mem x hx
  show (t : Int) ≤ 1023
  omega
/-- Two that fall due one behind the other. -/
theorem tab_pair {S : List T} {la : List Int} {hs : List Bool} (h : Tab S la hs) (hok : Ok S) (i : Nat) (hi : i + 1 < (S.map (·.1)).length) :
    ∃ a b t u : Nat, (S.map (·.1))[i]? = some (a : Int) ∧ (S.map (·.1))[i + 1]? = some (b : Int) ∧ a < 64 ∧ b < 64 ∧ la[a]? = some (t : Int) ∧ la[b]? = some (u : Int) ∧ (t < u ∨ (t = u ∧ a < b)) := by
  rw [List.length_map] at hi
  obtain ⟨a, t, ha, _, e1, l1⟩ := h.mem S[i] (List.getElem_mem _)
  obtain ⟨b, u, hb, _, e2, l2⟩ := h.mem S[i + 1] (List.getElem_mem _)
  have hp := List.pairwise_iff_getElem.1 hok.sorted i (i + 1) (by omega) hi (by omega)
  rw [e1, e2] at hp
  refine ⟨a, b, t, u, by rw [List.getElem?_map, List.getElem?_eq_getElem (by omega), e1]; rfl, by rw [List.getElem?_map, List.getElem?_eq_getElem hi, e2]; rfl, ha, hb, l1, l2, ?_⟩
  simp only [tl] at hp
  omega
theorem count_step (hs : List Bool) (k : Nat) (b : Bool) (h : hs[k]? = some b) : (hs.take (k + 1)).count true = (hs.take k).count true + (if b then 1 else 0) := by
  rw [List.take_add_one, h, List.count_append]
  cases b <;> simp
end Go.Proofs.Ytjkkoojgdnoecaa.Tim
