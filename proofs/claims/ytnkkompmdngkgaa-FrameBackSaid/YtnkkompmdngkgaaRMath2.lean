/-
  Plain: what a text with its stuffing and its sum taken off may be.
-/
import Derived.Test.YtnkkompmdngkgaaRMath
namespace Go.Proofs.Ytnkkompmdngkgaa.Frm
theorem get_len (l : List UInt8) : (Stf.get l).1.length ≤ l.length := by
  have h := Stf.grun_length l
  unfold Stf.get
  split
  · simp
  · split
    · simp
    · exact h
theorem check_len (t : List UInt8) (h : (Crc.check t).2 = 0) : (Crc.check t).1.length + 2 = t.length := by
  unfold Crc.check at h ⊢
  split at h
  · simp at h
  · split at h
    · rename_i h1 h2
      rw [if_neg h1, if_pos h2, List.length_take]
      omega
    · simp at h
def told (z : Int) (d : List UInt8) : (Int × List UInt8) × Int := if code z d.length = 0 then ((z, d), 0) else ((0, []), code z d.length)
/-- The ways of Get. -/
theorem get_ways (l : List UInt8) :
    ((Stf.get l).2 ≠ 0 ∧ get l = ((0, []), 300)) ∨
    ((Stf.get l).2 = 0 ∧ (Stf.get l).1.length < 6 ∧ get l = ((0, []), 300)) ∨
    ((Stf.get l).2 = 0 ∧ 6 ≤ (Stf.get l).1.length ∧ (Crc.check (Stf.get l).1).2 ≠ 0 ∧ get l = ((0, []), 301)) ∨
    (∃ p q : List UInt8, (Stf.get l).2 = 0 ∧ 6 ≤ (Stf.get l).1.length ∧ (Crc.check (Stf.get l).1).2 = 0 ∧ (Crc.check (Stf.get l).1).1 = p ++ q ∧ p.length = 2 ∧ p ≠ [255, 3] ∧ q.length ≤ l.length ∧ get l = ((0, []), 302)) ∨
    (∃ (a b : UInt8) (d : List UInt8), (Stf.get l).2 = 0 ∧ 6 ≤ (Stf.get l).1.length ∧ (Crc.check (Stf.get l).1).2 = 0 ∧ (Crc.check (Stf.get l).1).1 = [255, 3] ++ (a :: b :: d) ∧ d.length + 4 ≤ l.length ∧
      get l = told ((256 * a.toNat + b.toNat : Nat) : Int) d) := by
  have hl := get_len l
  unfold get
  by_cases h1 : (Stf.get l).2 = 0
  · by_cases h2 : (Stf.get l).1.length < 6
    · rw [if_pos (Or.inr h2)]
      exact .inr (.inl ⟨h1, h2, rfl⟩)
    · rw [if_neg (fun h => h.elim (fun h => h h1) h2)]
      unfold unsum
      by_cases h3 : (Crc.check (Stf.get l).1).2 = 0
      · rw [if_pos h3]
        have hc := check_len _ h3
        generalize (Crc.check (Stf.get l).1).1 = u at *
        match u, hc with
        | [], hc => simp at hc; omega
        | [_], hc => simp at hc; omega
        | [_, _], hc => simp at hc; omega
        | [_, _, _], hc => simp at hc; omega
        | x :: y :: a :: b :: d, hc =>
          by_cases hp : x = 255 ∧ y = 3
          · obtain ⟨rfl, rfl⟩ := hp
            exact .inr (.inr (.inr (.inr ⟨a, b, d, h1, by omega, h3, rfl, by simp at hc; omega, rfl⟩)))
          · refine .inr (.inr (.inr (.inl ⟨[x, y], a :: b :: d, h1, by omega, h3, rfl, rfl, by simpa using hp, by simp at hc; simp; omega, ?_⟩)))
            rw [read]
            intro a' b' d' hh
            simp only [List.cons.injEq] at hh
            exact hp ⟨hh.1, hh.2.1⟩
      · rw [if_neg h3]
        exact .inr (.inr (.inl ⟨h1, by omega, h3, rfl⟩))
  · rw [if_pos (Or.inl h1)]
    exact .inl ⟨h1, rfl⟩
end Go.Proofs.Ytnkkompmdngkgaa.Frm
