/-
  Stage 14, plain: what a link asks for, judged, learnt, taken.
-/
import Derived.Test.YtiadndcodjpijaaPoNum
namespace Go.Proofs.Ytiadndcodjpijaa.Pol
/-- What a link would ask for if it asked for all. -/
def full (l : Lk) : List Op := [(1, be 2 l.mru.toNat), (5, be 4 l.magic.toNat), (17, be 2 l.mrru.toNat), (18, []), (19, l.disc), (23, be 2 l.num.toNat)]
theorem sub_if (c : Prop) [Decidable c] (o : Op) : (if c then [] else [o]).Sublist [o] := by
  split
  · exact List.nil_sublist _
  · exact List.Sublist.refl _
theorem sub_ifb (c : Bool) (o : Op) : (if c then [o] else []).Sublist [o] := by
  cases c
  · exact List.nil_sublist _
  · exact List.Sublist.refl _
theorem asks_sub (l : Lk) : (asks l).Sublist (full l) := by
  have h : full l = [(1, be 2 l.mru.toNat)] ++ [(5, be 4 l.magic.toNat)] ++ [(17, be 2 l.mrru.toNat)] ++ [(18, [])] ++ [(19, l.disc)] ++ [(23, be 2 l.num.toNat)] := rfl
  rw [h]
  unfold asks opt
  exact ((((((sub_if _ _).append (sub_if _ _)).append (sub_if _ _)).append (sub_ifb _ _)).append (sub_if _ _)).append (sub_if _ _))
theorem asks_kinds (l : Lk) : ((asks l).map (·.1)).Nodup := by
  have h := (asks_sub l).map (·.1)
  exact h.nodup (by simp [full])
/-- An element of what a link asks for. -/
theorem asks_mem (l : Lk) (o : Op) (h : o ∈ asks l) : (o = (1, be 2 l.mru.toNat) ∧ l.mru ≠ 0) ∨ (o = (5, be 4 l.magic.toNat) ∧ l.magic ≠ 0) ∨ (o = (17, be 2 l.mrru.toNat) ∧ l.mrru ≠ 0) ∨ (o = (18, []) ∧ l.short = true) ∨ (o = (19, l.disc) ∧ l.disc ≠ []) ∨ (o = (23, be 2 l.num.toNat) ∧ l.num ≠ 0) := by
  unfold asks opt at h
  simp only [List.mem_append] at h
  rcases h with ((((h | h) | h) | h) | h) | h
  · split at h
    · cases h
    · exact .inl ⟨by simpa using h, by assumption⟩
  · split at h
    · cases h
    · exact .inr (.inl ⟨by simpa using h, by assumption⟩)
  · split at h
    · cases h
    · exact .inr (.inr (.inl ⟨by simpa using h, by assumption⟩))
  · split at h
    · exact .inr (.inr (.inr (.inl ⟨by simpa using h, by assumption⟩)))
    · cases h
  · split at h
    · cases h
    · exact .inr (.inr (.inr (.inr (.inl ⟨by simpa using h, by assumption⟩))))
  · split at h
    · cases h
    · exact .inr (.inr (.inr (.inr (.inr ⟨by simpa using h, by assumption⟩))))
theorem size_iff (x : Int) : size x = true ↔ x = 0 ∨ (128 ≤ x ∧ x ≤ 1500) := by
  unfold size unit
  simp
theorem right_asks (l : Lk) (hm : may l = true) (o : Op) (h : o ∈ asks l) : right o = true := by
  obtain ⟨_, _, _, _, h5, _, _⟩ := (may_iff l).1 hm
  rcases asks_mem l o h with ⟨rfl, _⟩ | ⟨rfl, _⟩ | ⟨rfl, _⟩ | ⟨rfl, _⟩ | ⟨rfl, hd⟩ | ⟨rfl, _⟩
  · simp [right, be_length]
  · simp [right, be_length]
  · simp [right, be_length]
  · simp [right]
  · have : 1 ≤ l.disc.length := List.length_pos_iff.2 hd
    simp [right, this, h5]
  · simp [right, be_length]
theorem asks_range (l : Lk) : ∀ o ∈ asks l, 0 ≤ o.1 ∧ o.1 ≤ 255 := by
  intro o h
  rcases asks_mem l o h with h | h | h | h | h | h <;> (obtain ⟨rfl, _⟩ := h; simp)
theorem asks_length (l : Lk) : (asks l).length ≤ 6 := (asks_sub l).length_le
theorem fit_right (o : Op) (h : right o = true) : fit o = true := by
  unfold right at h
  unfold fit
  split at h
  · rename_i hk
    simp at h ⊢
    omega
  · split at h
    · rename_i hk
      simp at h ⊢
      omega
    · split at h
      · rename_i hk
        simp at h ⊢
        rw [h]
        simp
        omega
      · split at h
        · rename_i hk
          simp at h ⊢
          omega
        · cases h
theorem fits_of (os : List Op) (h : ∀ o ∈ os, right o = true) : fits os = true := List.all_eq_true.2 fun o ho => fit_right o (h o ho)
theorem g_mem (os : List Op) (k : Nat) (h : k < os.length) : g os k ∈ os := by rw [g_eq os k h]; exact List.getElem_mem h
theorem g_fst (os : List Op) (k : Nat) (h : k < os.length) : (os.map (·.1))[k]? = some (g os k).1 := by rw [List.getElem?_map, g_eq os k h, List.getElem?_eq_getElem h]; rfl
theorem kind_inj (os : List Op) (hn : (os.map (·.1)).Nodup) (j k : Nat) (hj : j < os.length) (hk : k < os.length) (h : (g os j).1 = (g os k).1) : j = k := by
  have e : (os.map (·.1))[j]? = (os.map (·.1))[k]? := by rw [g_fst os j hj, g_fst os k hk, h]
  exact (List.getElem?_inj (by simpa using hj) hn).1 e
theorem twice_none (os : List Op) (hn : (os.map (·.1)).Nodup) (k : Nat) (hk : k < os.length) : twice os k = false := by
  unfold twice
  rw [List.any_eq_false]
  intro o ho
  obtain ⟨j, hj, e⟩ := List.mem_take_iff_getElem.1 ho
  have hjk : j < k := by omega
  have hne : (g os j).1 ≠ (g os k).1 := fun h => by
    have := kind_inj os hn j k (by omega) hk h
    omega
  rw [g_eq os j (by omega), e] at hne
  simpa using hne
theorem rejs_none (own : Lk) (os : List Op) (n : Nat) (h : ∀ k, k < n → bad own os k = false) : rejs own os n = [] := by
  induction n with
  | zero => rfl
  | succ n ih => simp [rejs, ih (fun k hk => h k (by omega)), h n (by omega)]
theorem rejs_one (own : Lk) (os : List Op) (n k0 : Nat) (h0 : k0 < n) (h : ∀ k, k < n → bad own os k = decide (k = k0)) : rejs own os n = [g os k0] := by
  induction n with
  | zero => omega
  | succ n ih =>
    by_cases e : k0 = n
    · subst e
      have hr := rejs_none own os k0 (fun k hk => by rw [h k (by omega), decide_eq_false (by omega)])
      simp [rejs, hr, h k0 (by omega)]
    · have hr := ih (by omega) (fun k hk => h k (by omega))
      have hb : bad own os n = false := by rw [h n (by omega), decide_eq_false (by omega)]
      simp [rejs, hr, hb]
section
variable (nm : List UInt8 → Int)
theorem naks_none (own : Lk) (os : List Op) (n : Nat) (h : ∀ k, k < n → bad own os k = false ∧ better nm own (g os k) = none) : naks nm own os n = [] := by
  induction n with
  | zero => rfl
  | succ n ih => simp [naks, ih (fun k hk => h k (by omega)), (h n (by omega)).1, (h n (by omega)).2]
theorem naks_one (own : Lk) (os : List Op) (n k0 : Nat) (o : Op) (h0 : k0 < n) (hb : ∀ k, k < n → bad own os k = false) (h1 : better nm own (g os k0) = some o) (h : ∀ k, k < n → k ≠ k0 → better nm own (g os k) = none) : naks nm own os n = [o] := by
  induction n with
  | zero => omega
  | succ n ih =>
    by_cases e : k0 = n
    · subst e
      have hr := naks_none nm own os k0 (fun k hk => ⟨hb k (by omega), h k (by omega) (by omega)⟩)
      simp [naks, hr, hb k0 (by omega), h1]
    · have hr := ih (by omega) (fun k hk => hb k (by omega)) (fun k hk => h k (by omega))
      simp [naks, hr, hb n (by omega), h n (by omega) (fun x => e x.symm)]
end
theorem turn_bounds (m : Int) (h0 : 0 ≤ m) (h1 : m ≤ 4294967295) : 1 ≤ turn m ∧ turn m ≤ 4294967295 ∧ turn m ≠ m := by
  unfold turn
  split <;> omega
/-- What a link asks for, judged by one that may be. -/
theorem judge_asks (a b : Lk) (ha : may a = true) (hb : may b = true) : judge Pl.nm b (asks a) =
    if a.short = true ∧ b.short = false then (2, [(18, [])], 0) else if a.magic ≠ 0 ∧ a.magic = b.magic then (1, [(5, be 4 (turn b.magic).toNat)], 0) else (0, asks a, 0) := by
  have hr := right_asks a ha
  have hn := asks_kinds a
  have hbad : ∀ k, k < (asks a).length → bad b (asks a) k = ((g (asks a) k).1 == 18 && !b.short) := fun k hk => by
    unfold bad
    rw [hr _ (g_mem _ k hk), twice_none _ hn k hk]
    rfl
  obtain ⟨g1, g2, g3, g4, g5, g6, g7⟩ := (may_iff a).1 ha
  have hfit := fits_of _ hr
  unfold judge
  rw [hb, hfit, Bool.and_self, if_pos rfl]
  by_cases hs : a.short = true ∧ b.short = false
  · rw [if_pos hs]
    have hm : ((18, []) : Op) ∈ asks a := by unfold asks; simp [hs.1]
    obtain ⟨k0, hk0, e0⟩ := List.mem_iff_getElem.1 hm
    have hrj := rejs_one b (asks a) (asks a).length k0 hk0 (fun k hk => by
      rw [hbad k hk, hs.2]
      by_cases e : k = k0
      · subst e
        rw [g_eq _ k hk, e0]
        simp
      · have : (g (asks a) k).1 ≠ 18 := fun h => e (kind_inj _ hn k k0 hk hk0 (by rw [h, g_eq _ k0 hk0, e0]))
        rw [decide_eq_false e]
        simpa using this)
    rw [hrj, g_eq _ k0 hk0, e0]
    simp
  · rw [if_neg hs]
    have hno : ∀ k, k < (asks a).length → bad b (asks a) k = false := fun k hk => by
      rw [hbad k hk]
      rcases asks_mem a _ (g_mem _ k hk) with ⟨e, _⟩ | ⟨e, _⟩ | ⟨e, _⟩ | ⟨e, h⟩ | ⟨e, _⟩ | ⟨e, _⟩ <;> rw [e]
      · rfl
      · rfl
      · rfl
      · have : b.short = true := by
          cases hb2 : b.short
          · exact absurd ⟨h, hb2⟩ hs
          · rfl
        rw [this]
        rfl
      · rfl
      · rfl
    rw [rejs_none _ _ _ hno]
    simp only [ne_eq, not_true_eq_false, if_false]
    have hunit : ∀ x : Int, size x = true → x ≠ 0 → unit (Pl.nm (be 2 x.toNat)) = true := fun x hx h0 => by
      rcases (size_iff x).1 hx with h | h
      · exact absurd h h0
      · rw [Pl.nm_be 2 _ (by omega) (by omega), Int.toNat_of_nonneg (by omega)]
        unfold unit
        simp [h]
    have hbet : ∀ k, k < (asks a).length → better Pl.nm b (g (asks a) k) = if (g (asks a) k).1 = 5 ∧ a.magic = b.magic then some (5, be 4 (turn b.magic).toNat) else none := fun k hk => by
      rcases asks_mem a _ (g_mem _ k hk) with ⟨e, h⟩ | ⟨e, h⟩ | ⟨e, h⟩ | ⟨e, h⟩ | ⟨e, h⟩ | ⟨e, h⟩ <;> rw [e] <;> unfold better
      · simp [hunit _ g1 h]
      · have : Pl.nm (be 4 a.magic.toNat) = a.magic := by rw [Pl.nm_be 4 _ (by omega) (by omega), Int.toNat_of_nonneg g3]
        simp [this, h]
      · simp [hunit _ g2 h]
      · simp
      · simp
      · simp
    by_cases hm : a.magic ≠ 0 ∧ a.magic = b.magic
    · rw [if_pos hm]
      have hmem : ((5, be 4 a.magic.toNat) : Op) ∈ asks a := by unfold asks opt; simp [hm.1]
      obtain ⟨k0, hk0, e0⟩ := List.mem_iff_getElem.1 hmem
      have hna := naks_one Pl.nm b (asks a) (asks a).length k0 (5, be 4 (turn b.magic).toNat) hk0 hno (by
        rw [hbet k0 hk0, g_eq _ k0 hk0, e0, if_pos ⟨rfl, hm.2⟩]) (fun k hk hne => by
        rw [hbet k hk, if_neg]
        rintro ⟨h5, _⟩
        exact hne (kind_inj _ hn k k0 hk hk0 (by rw [h5, g_eq _ k0 hk0, e0])))
      rw [hna]
      simp
    · rw [if_neg hm]
      have hna := naks_none Pl.nm b (asks a) (asks a).length (fun k hk => ⟨hno k hk, by
        rw [hbet k hk, if_neg]
        rintro ⟨h5, he⟩
        rcases asks_mem a _ (g_mem _ k hk) with ⟨e, h⟩ | ⟨e, h⟩ | ⟨e, h⟩ | ⟨e, h⟩ | ⟨e, h⟩ | ⟨e, h⟩ <;> rw [e] at h5
        · simp at h5
        · exact hm ⟨h, he⟩
        · simp at h5
        · simp at h5
        · simp at h5
        · simp at h5⟩)
      rw [hna]
      simp
end Go.Proofs.Ytiadndcodjpijaa.Pol
