/-
  Stage 14, plain: one round of asking, being judged, learning.
-/
import Derived.Test.YtiadndcodjpijaaPoMath3
namespace Go.Proofs.Ytiadndcodjpijaa.Pol
def rank (b a : Lk) : Nat := (if a.short = true ∧ b.short = false then 1 else 0) + (if a.magic ≠ 0 ∧ a.magic = b.magic then 1 else 0)
theorem rank_le (b a : Lk) : rank b a ≤ 2 := by
  unfold rank
  split <;> split <;> omega
theorem learn_learns (code : Int) (hc : code = 3 ∨ code = 4) (l : Lk) (os : List Op) (h : may l = true) : learn Pl.nm l code os = (learns Pl.nm code l os, 0) := by
  unfold learn
  rw [h]
  rcases hc with rfl | rfl <;> rfl
theorem round (a b : Lk) (ha : may a = true) (hb : may b = true) : judge Pl.nm b (asks a) = (0, asks a, 0) ∨
    ∃ vd code rs a', ((vd = 2 ∧ code = 4) ∨ (vd = 1 ∧ code = 3)) ∧ judge Pl.nm b (asks a) = (vd, rs, 0) ∧ learn Pl.nm a code rs = (a', 0) ∧ a' ≠ a ∧ may a' = true ∧ rank b a' + 1 = rank b a ∧ rs.length = 1 ∧ ∀ o ∈ rs, o.2.length ≤ 4 := by
  have e := judge_asks a b ha hb
  obtain ⟨_, _, b3, b4, _, _, _⟩ := (may_iff b).1 hb
  by_cases hs : a.short = true ∧ b.short = false
  · rw [if_pos hs] at e
    have hl := learn_short a ha
    refine .inr ⟨2, 4, _, { a with short := false }, .inl ⟨rfl, rfl⟩, e, hl, fun h => ?_, ?_, ?_, rfl, by simp⟩
    · have := congrArg Lk.short h
      rw [hs.1] at this
      cases this
    · have h2 := learn_learns 4 (.inr rfl) a [(18, [])] ha
      rw [hl] at h2
      have h3 := congrArg Prod.fst h2
      simp only at h3
      rw [h3]
      exact may_learns 4 (.inr rfl) _ a ha
    · unfold rank
      simp [hs.1, hs.2]
      omega
  · rw [if_neg hs] at e
    by_cases hm : a.magic ≠ 0 ∧ a.magic = b.magic
    · rw [if_pos hm] at e
      obtain ⟨t1, t2, t3⟩ := turn_bounds b.magic b3 b4
      have hl := learn_magic a ha hm.1 (turn b.magic) t1 t2
      refine .inr ⟨1, 3, _, { a with magic := turn b.magic }, .inr ⟨rfl, rfl⟩, e, hl, fun h => ?_, ?_, ?_, rfl, by simp [be_length]⟩
      · have := congrArg Lk.magic h
        simp only at this
        exact t3 (this.trans hm.2)
      · have h2 := learn_learns 3 (.inl rfl) a [(5, be 4 (turn b.magic).toNat)] ha
        rw [hl] at h2
        have h3 := congrArg Prod.fst h2
        simp only at h3
        rw [h3]
        exact may_learns 3 (.inl rfl) _ a ha
      · unfold rank
        rw [if_neg hs, if_pos hm]
        simp only
        rw [if_neg (fun h => t3 h.2)]
    · rw [if_neg hm] at e
      exact .inl e
end Go.Proofs.Ytiadndcodjpijaa.Pol
