/-
  Stage 14, plain: one option among those a link asks for is to be rejected.
-/
import Derived.Test.YtiadndcodjpijaaPoMath3
namespace Go.Proofs.Ytiadndcodjpijaa.Pol
def own1 : Lk := ⟨0, 0, 0, true, [], 0⟩
theorem own1_may : may own1 = true := by decide
theorem rej_whole (os : List Op) (hf : fits os = true) (rs : List Op) (h : rejs own1 os os.length = rs) (hne : rs ≠ []) : judge Pl.nm own1 os = (2, rs, 0) := by
  unfold judge
  rw [own1_may, hf, Bool.and_self, if_pos rfl, h, if_pos hne]
theorem bad_own1 (os : List Op) (k : Nat) : bad own1 os k = (!right (g os k) || twice os k) := by
  unfold bad
  simp [own1]
theorem asks_small (a : Lk) (o : Op) (h : o ∈ asks a) : o.1 ≤ 23 := by
  rcases asks_mem a o h with ⟨e, _⟩ | ⟨e, _⟩ | ⟨e, _⟩ | ⟨e, _⟩ | ⟨e, _⟩ | ⟨e, _⟩ <;> rw [e] <;> simp
/-- One option of a great kind among those that a link asks for. -/
theorem judge_among (a : Lk) (ha : may a = true) (l r : List Op) (hlr : l ++ r = asks a) (k : Int) (hk : 100 ≤ k) (hk2 : k ≤ 255) (d : List UInt8) (hd : d.length ≤ 253) : judge Pl.nm own1 (l ++ [(k, d)] ++ r) = (2, [(k, d)], 0) := by
  have hin : ∀ o, o ∈ l ++ r → right o = true := fun o h => right_asks a ha o (hlr ▸ h)
  have hmem : ∀ o, o ∈ l ++ [(k, d)] ++ r → o = (k, d) ∨ o ∈ l ++ r := fun o h => by
    simp only [List.mem_append, List.mem_singleton] at h ⊢
    rcases h with (h | h) | h
    · exact .inr (.inl h)
    · exact .inl h
    · exact .inr (.inr h)
  have hf : fits (l ++ [(k, d)] ++ r) = true := List.all_eq_true.2 fun o ho => by
    rcases hmem o ho with rfl | h
    · unfold fit
      simp
      omega
    · exact fit_right o (hin o h)
  have hsm : ∀ o, o ∈ l ++ r → o.1 ≤ 23 := fun o h => asks_small a o (hlr ▸ h)
  have hnd : ((l ++ [(k, d)] ++ r).map (·.1)).Nodup := by
    have h0 : ((l ++ r).map (·.1)).Nodup := hlr ▸ asks_kinds a
    rw [List.map_append] at h0
    obtain ⟨n1, n2, n3⟩ := List.nodup_append.1 h0
    rw [List.map_append, List.map_append, List.nodup_append, List.nodup_append]
    refine ⟨⟨n1, by simp, fun x hx y hy => ?_⟩, n2, fun x hx y hy => ?_⟩
    · obtain ⟨o, ho, rfl⟩ := List.mem_map.1 hx
      have := hsm o (List.mem_append_left _ ho)
      simp at hy
      subst hy
      omega
    · rcases List.mem_append.1 hx with hx | hx
      · exact n3 x hx y hy
      · obtain ⟨o, ho, rfl⟩ := List.mem_map.1 hy
        have := hsm o (List.mem_append_right _ ho)
        simp at hx
        subst hx
        omega
  have hlen : l.length < (l ++ [(k, d)] ++ r).length := by simp
  have hat : g (l ++ [(k, d)] ++ r) l.length = (k, d) := by
    rw [g_eq _ _ hlen]
    simp
  have hr := rejs_one own1 (l ++ [(k, d)] ++ r) (l ++ [(k, d)] ++ r).length l.length hlen (fun j hj => by
    rw [bad_own1, twice_none _ hnd j hj, Bool.or_false]
    by_cases e : j = l.length
    · subst e
      rw [hat]
      have : right (k, d) = false := by
        unfold right
        simp only
        rw [if_neg (by omega), if_neg (by omega), if_neg (by omega), if_neg (by omega)]
      rw [this]
      simp
    · rw [decide_eq_false e]
      rcases hmem _ (g_mem _ j hj) with h | h
      · exact absurd (kind_inj _ hnd j l.length hj hlen (by rw [h, hat])) e
      · rw [hin _ h]
        rfl)
  rw [hat] at hr
  exact rej_whole _ hf _ hr (by simp)
/-- The first of them once more behind. -/
theorem judge_twice (a : Lk) (ha : may a = true) (o : Op) (r : List Op) (h : asks a = o :: r) : judge Pl.nm own1 (asks a ++ [o]) = (2, [o], 0) ∧ taken Pl.nm (asks a ++ [o]) = (zero, 1400) := by
  have hin : ∀ x, x ∈ asks a ++ [o] → right x = true := fun x hx => by
    rcases List.mem_append.1 hx with hx | hx
    · exact right_asks a ha x hx
    · have : x = o := by simpa using hx
      exact right_asks a ha x (by rw [h, this]; simp)
  have hf := fits_of _ hin
  have hn := asks_kinds a
  have hlen : (asks a ++ [o]).length = (asks a).length + 1 := by simp
  have hat : g (asks a ++ [o]) (asks a).length = o := by
    rw [g_eq _ _ (by omega)]
    simp
  have hlow : ∀ j, j < (asks a).length → g (asks a ++ [o]) j = g (asks a) j := fun j hj => by
    rw [g_eq _ _ (by omega), g_eq _ _ hj, List.getElem_append_left hj]
  have ht : ∀ j, j < (asks a).length → twice (asks a ++ [o]) j = false := fun j hj => by
    have e := twice_none (asks a) hn j hj
    unfold twice at e ⊢
    rw [hlow j hj, List.take_append_of_le_length (by omega)]
    exact e
  have htl : twice (asks a ++ [o]) (asks a).length = true := by
    unfold twice
    rw [hat, List.take_append_of_le_length (by omega), List.take_length, List.any_eq_true]
    exact ⟨o, by rw [h]; simp, by simp⟩
  constructor
  · have hr := rejs_one own1 (asks a ++ [o]) (asks a ++ [o]).length (asks a).length (by omega) (fun j hj => by
      rw [bad_own1, hin _ (g_mem _ j hj)]
      by_cases e : j = (asks a).length
      · rw [e, htl]
        simp
      · rw [ht j (by omega), decide_eq_false e]
        rfl)
    rw [hat] at hr
    exact rej_whole _ hf _ hr (by simp)
  · have e : allFine (asks a ++ [o]) (asks a ++ [o]).length = false := by
      rw [hlen]
      unfold allFine fine
      rw [htl]
      simp
    unfold taken
    rw [e, Bool.false_and]
    rfl
end Go.Proofs.Ytiadndcodjpijaa.Pol
