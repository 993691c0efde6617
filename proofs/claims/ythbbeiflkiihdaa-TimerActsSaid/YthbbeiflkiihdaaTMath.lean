/-
  Timers as plain lists: which of two falls due first; a heap; what setting, stopping and falling due make of a sorted list.
-/
import Init.Data.Array.Perm
import Init.Data.List.Perm
namespace Go.Proofs.Ythbbeiflkiihdaa.Tim
/-- A timer: its id, its time. -/
abbrev T := Int × Int
/-- It falls due ahead of the other. -/
def tl (a b : T) : Prop := a.2 < b.2 ∨ (a.2 = b.2 ∧ a.1 < b.1)
instance (a b : T) : Decidable (tl a b) := by unfold tl; infer_instance
theorem tl_trans {a b c : T} (h : tl a b) (k : tl b c) : tl a c := by simp only [tl] at *; omega
theorem tl_asymm {a b : T} (h : tl a b) : ¬tl b a := by simp only [tl] at *; omega
theorem tl_irrefl (a : T) : ¬tl a a := by simp only [tl]; omega
theorem nt {a b c : T} (h : ¬tl b a) (k : ¬tl c b) : ¬tl c a := by simp only [tl] at *; omega
theorem nt_left {a b c : T} (h : tl a b) (k : ¬tl c b) : ¬tl c a := by simp only [tl] at *; omega
theorem tl_anti {a b : T} (h : ¬tl a b) (k : ¬tl b a) : a = b := by
  have h1 : a.1 = b.1 := by simp only [tl] at *; omega
  have h2 : a.2 = b.2 := by simp only [tl] at *; omega
  exact Prod.ext h1 h2
def g (A : List T) (k : Nat) : T := A.getD k (0, 0)
theorem g_eq (A : List T) (k : Nat) (h : k < A.length) : g A k = A[k] := by simp [g, List.getD, h]
theorem g_some (A : List T) (k : Nat) (h : k < A.length) : A[k]? = some (g A k) := by rw [g_eq A k h, List.getElem?_eq_getElem h]
/-- Two change places. -/
def sw (A : List T) (i j : Nat) : List T := (A.set i (g A j)).set j (g A i)
theorem sw_length (A : List T) (i j : Nat) : (sw A i j).length = A.length := by simp [sw]
theorem g_set (A : List T) (i k : Nat) (x : T) (h : i < A.length) : g (A.set i x) k = if k = i then x else g A k := by
  unfold g
  simp only [List.getD_eq_getElem?_getD, List.getElem?_set]
  by_cases e : i = k
  · subst e; simp [h]
  · rw [if_neg e, if_neg (fun x => e x.symm)]
theorem g_sw (A : List T) (i j k : Nat) (hi : i < A.length) (hj : j < A.length) : g (sw A i j) k = if k = j then g A i else if k = i then g A j else g A k := by
  unfold sw
  rw [g_set _ _ _ _ (by simpa using hj)]
  split
  · rfl
  · rw [g_set _ _ _ _ hi]
theorem sw_perm (A : List T) (i j : Nat) (hi : i < A.length) (hj : j < A.length) : (sw A i j).Perm A := by
  have h := (Array.swap_perm (xs := A.toArray) (i := i) (j := j) (by simpa using hi) (by simpa using hj)).toList
  have e : (A.toArray.swap i j (by simpa using hi) (by simpa using hj)).toList = sw A i j := by
    rw [Array.toList_swap]
    simp [sw, g_eq A i hi, g_eq A j hj]
  rwa [e] at h
theorem sw_same (A : List T) (i : Nat) (h : i < A.length) : sw A i i = A := by
  unfold sw
  rw [g_eq A i h]
  simp
/-- A heap, up to place n. -/
def Hp (A : List T) (n : Nat) : Prop := ∀ k, 0 < k → k < n → ¬tl (g A k) (g A ((k - 1) / 2))
/-- .. but for j and its parent. -/
def Up (A : List T) (n j : Nat) : Prop := (∀ k, 0 < k → k < n → k ≠ j → ¬tl (g A k) (g A ((k - 1) / 2))) ∧ ∀ c, 0 < c → c < n → (c - 1) / 2 = j → 0 < j → ¬tl (g A c) (g A ((j - 1) / 2))
/-- .. but for i and its children. -/
def Dn (A : List T) (n i : Nat) : Prop := (∀ k, 0 < k → k < n → (k - 1) / 2 ≠ i → ¬tl (g A k) (g A ((k - 1) / 2))) ∧ ∀ c, 0 < c → c < n → (c - 1) / 2 = i → 0 < i → ¬tl (g A c) (g A ((i - 1) / 2))
/-- .. but for i, its parent and its children. -/
def Fx (A : List T) (n i : Nat) : Prop := (∀ k, 0 < k → k < n → k ≠ i → (k - 1) / 2 ≠ i → ¬tl (g A k) (g A ((k - 1) / 2))) ∧ ∀ c, 0 < c → c < n → (c - 1) / 2 = i → 0 < i → ¬tl (g A c) (g A ((i - 1) / 2))
theorem up_zero {A : List T} {n : Nat} (h : Up A n 0) : Hp A n := fun k h0 hn => h.1 k h0 hn (by omega)
theorem up_end {A : List T} {n j : Nat} (h : Up A n j) (h0 : ¬tl (g A j) (g A ((j - 1) / 2))) : Hp A n := fun k hk hn => by
  by_cases e : k = j
  · subst e; exact h0
  · exact h.1 k hk hn e
theorem up_step {A : List T} {n j : Nat} (h : Up A n j) (h0 : 0 < j) (hj : j < n) (hn : n ≤ A.length) (hl : tl (g A j) (g A ((j - 1) / 2))) : Up (sw A ((j - 1) / 2) j) n ((j - 1) / 2) := by
  obtain ⟨p, hp⟩ : ∃ p, p = (j - 1) / 2 := ⟨_, rfl⟩
  rw [← hp] at hl ⊢
  have hpj : p < j := by omega
  have e := fun k => g_sw A p j k (by omega) (by omega)
  refine ⟨fun k hk hkn hkp => ?_, fun c hc hcn hcp hp0 => ?_⟩
  · rw [e k, e ((k - 1) / 2)]
    by_cases k1 : k = j
    · subst k1
      rw [if_pos rfl, if_neg (by omega), if_pos hp.symm]
      exact tl_asymm hl
    · rw [if_neg k1, if_neg hkp]
      by_cases k2 : (k - 1) / 2 = j
      · rw [if_pos k2]
        have := h.2 k hk hkn k2 h0
        rwa [← hp] at this
      · rw [if_neg k2]
        by_cases k3 : (k - 1) / 2 = p
        · rw [if_pos k3]
          have := h.1 k hk hkn k1
          rw [k3] at this
          exact nt_left hl this
        · rw [if_neg k3]
          exact h.1 k hk hkn k1
  · have h1 := h.1 p hp0 (by omega) (by omega)
    rw [e c, e ((p - 1) / 2), if_neg (show ¬(p - 1) / 2 = j by omega), if_neg (show ¬(p - 1) / 2 = p by omega)]
    by_cases c1 : c = j
    · rw [if_pos c1]
      exact h1
    · rw [if_neg c1, if_neg (by omega)]
      have h2 := h.1 c hc hcn c1
      rw [hcp] at h2
      exact nt h1 h2
/-- i is not behind its children: there it ends. -/
theorem fx_end {A : List T} {n i : Nat} (h : Fx A n i) (hc : ∀ c, 0 < c → c < n → (c - 1) / 2 = i → ¬tl (g A c) (g A i)) : Up A n i :=
  ⟨fun k hk hn hi => by
    by_cases e : (k - 1) / 2 = i
    · rw [e]; exact hc k hk hn e
    · exact h.1 k hk hn hi e, h.2⟩
theorem dn_end {A : List T} {n i : Nat} (h : Dn A n i) (hc : ∀ c, 0 < c → c < n → (c - 1) / 2 = i → ¬tl (g A c) (g A i)) : Hp A n := fun k hk hn => by
  by_cases e : (k - 1) / 2 = i
  · rw [e]; exact hc k hk hn e
  · exact h.1 k hk hn e
theorem dn_fx {A : List T} {n i : Nat} (h : Dn A n i) : Fx A n i := ⟨fun k hk hn _ he => h.1 k hk hn he, h.2⟩
/-- i changes places with the child that falls due first. -/
theorem fx_step {A : List T} {n i j : Nat} (h : Fx A n i) (hn : n ≤ A.length) (hj0 : 0 < j) (hj : j < n) (hp : (j - 1) / 2 = i) (hl : tl (g A j) (g A i)) (hs : ∀ c, 0 < c → c < n → (c - 1) / 2 = i → ¬tl (g A c) (g A j)) : Dn (sw A i j) n j := by
  have hij : i < j := by omega
  have e := fun k => g_sw A i j k (by omega) (by omega)
  refine ⟨fun k hk hkn hkj => ?_, fun c hc hcn hcj _ => ?_⟩
  · rw [e k, e ((k - 1) / 2), if_neg hkj]
    by_cases k1 : k = j
    · subst k1
      rw [if_pos rfl, if_pos hp]
      exact tl_asymm hl
    · rw [if_neg k1]
      by_cases k2 : k = i
      · subst k2
        rw [if_pos rfl, if_neg (by omega)]
        exact h.2 j hj0 hj hp hk
      · rw [if_neg k2]
        by_cases k3 : (k - 1) / 2 = i
        · rw [if_pos k3]
          exact hs k hk hkn k3
        · rw [if_neg k3]
          exact h.1 k hk hkn k2 k3
  · rw [e c, e ((j - 1) / 2), if_neg (show ¬(j - 1) / 2 = j by omega), if_pos hp, if_neg (by omega), if_neg (by omega)]
    have := h.1 c hc hcn (by omega) (by omega)
    rwa [hcj] at this
/-- One place of a heap is written over. -/
theorem hp_set {A : List T} {n i : Nat} (h : Hp A n) (hn : n ≤ A.length) (hi : i < n) (x : T) : Fx (A.set i x) n i := by
  have e := fun k => g_set A i k x (by omega)
  refine ⟨fun k hk hkn hki hkp => ?_, fun c hc hcn hcp hi0 => ?_⟩
  · rw [e k, e ((k - 1) / 2), if_neg hki, if_neg hkp]
    exact h k hk hkn
  · rw [e c, e ((i - 1) / 2), if_neg (by omega), if_neg (by omega)]
    have h1 := h c hc hcn
    rw [hcp] at h1
    exact nt (h i hi0 hi) h1
/-- The last one changes places with i, ahead of its being taken away. -/
theorem hp_sw {A : List T} {n i : Nat} (h : Hp A (n + 1)) (hn : n + 1 ≤ A.length) (hi : i < n) : Fx (sw A i n) n i := by
  have e := fun k => g_sw A i n k (by omega) (by omega)
  refine ⟨fun k hk hkn hki hkp => ?_, fun c hc hcn hcp hi0 => ?_⟩
  · rw [e k, e ((k - 1) / 2), if_neg (show ¬k = n by omega), if_neg hki, if_neg (show ¬(k - 1) / 2 = n by omega), if_neg hkp]
    exact h k hk (by omega)
  · rw [e c, e ((i - 1) / 2), if_neg (show ¬c = n by omega), if_neg (show ¬c = i by omega), if_neg (show ¬(i - 1) / 2 = n by omega), if_neg (show ¬(i - 1) / 2 = i by omega)]
    have h1 := h c hc (by omega)
    rw [hcp] at h1
    exact nt (h i hi0 (by omega)) h1
theorem hp_less {A : List T} {n m : Nat} (h : Hp A n) (hm : m ≤ n) : Hp A m := fun k hk hkn => h k hk (by omega)
/-- One more behind a heap. -/
theorem hp_push {A : List T} (h : Hp A A.length) (x : T) : Up (A ++ [x]) (A.length + 1) A.length := by
  have e : ∀ k, k < A.length → g (A ++ [x]) k = g A k := fun k hk => by simp [g, List.getD, hk, List.getElem?_append_left]
  refine ⟨fun k hk hkn hki => ?_, fun c hc hcn hcp _ => by omega⟩
  rw [e k (by omega), e ((k - 1) / 2) (by omega)]
  exact h k hk (by omega)
theorem hp_congr {A B : List T} {n : Nat} (h : Hp A n) (e : ∀ k, k < n → g B k = g A k) : Hp B n := fun k hk hn => by
  rw [e k hn, e ((k - 1) / 2) (by omega)]
  exact h k hk hn
theorem hp_take {A : List T} {n : Nat} (h : Hp A n) (hn : n ≤ A.length) : Hp (A.take n) (A.take n).length := by
  rw [List.length_take, Nat.min_eq_left hn]
  refine hp_congr h fun k hk => ?_
  simp [g, List.getD, hk]
/-- A heap's first one falls due first. -/
theorem hp_first {A : List T} {n : Nat} (h : Hp A n) : ∀ k, k < n → ¬tl (g A k) (g A 0) := by
  intro k
  induction k using Nat.strongRecOn with
  | ind k ih =>
    intro hk
    by_cases k0 : k = 0
    · subst k0; exact tl_irrefl _
    · exact nt (ih ((k - 1) / 2) (by omega) (by omega)) (h k (by omega) hk)
end Go.Proofs.Ythbbeiflkiihdaa.Tim
