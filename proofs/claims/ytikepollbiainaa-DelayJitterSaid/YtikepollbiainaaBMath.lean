/-
  Stage 12, plain: how long to wait ahead of a try, as a function of four numbers.
-/
namespace Go.Proofs.Ytikepollbiainaa.Bko
/-- So many doublings, none once the cap is come to. -/
def grown (b m : Int) : Nat → Int
  | 0 => b
  | n + 1 => if m ≤ grown b m n then grown b m n else grown b m n * 2
def cap (b m : Int) (n : Nat) : Int := min (grown b m n) m
def good (t b m j : Int) : Bool := decide (0 ≤ t) && decide (t ≤ 62) && decide (1 ≤ b) && decide (b ≤ 4096) && decide (b ≤ m) && decide (m ≤ 4096) && decide (0 ≤ j)
def rest (d j : Int) : Int := d - j % (d / 4 + 1)
def del (t b m j : Int) : Int × Int := if good t b m j then (rest (cap b m t.toNat) j, 0) else (0, 1200)
theorem good_iff (t b m j : Int) : good t b m j = true ↔ 0 ≤ t ∧ t ≤ 62 ∧ 1 ≤ b ∧ b ≤ 4096 ∧ b ≤ m ∧ m ≤ 4096 ∧ 0 ≤ j := by
  unfold good
  simp only [Bool.and_eq_true, decide_eq_true_eq, and_assoc]
theorem del_good (t b m j : Int) (h : 0 ≤ t ∧ t ≤ 62 ∧ 1 ≤ b ∧ b ≤ 4096 ∧ b ≤ m ∧ m ≤ 4096 ∧ 0 ≤ j) : del t b m j = (rest (cap b m t.toNat) j, 0) := by
  unfold del
  rw [if_pos ((good_iff t b m j).2 h)]
theorem del_bad (t b m j : Int) (h : ¬(0 ≤ t ∧ t ≤ 62 ∧ 1 ≤ b ∧ b ≤ 4096 ∧ b ≤ m ∧ m ≤ 4096 ∧ 0 ≤ j)) : del t b m j = (0, 1200) := by
  unfold del
  rw [if_neg (fun e => h ((good_iff t b m j).1 e))]
theorem grown_stop (b m : Int) (n : Nat) (h : m ≤ grown b m n) : grown b m (n + 1) = grown b m n := by
  show (if m ≤ grown b m n then grown b m n else grown b m n * 2) = _
  rw [if_pos h]
theorem grown_go (b m : Int) (n : Nat) (h : grown b m n < m) : grown b m (n + 1) = grown b m n * 2 := by
  show (if m ≤ grown b m n then grown b m n else grown b m n * 2) = _
  rw [if_neg (Int.not_le.2 h)]
/-- Once come to, the cap stays. -/
theorem grown_stay (b m : Int) (n : Nat) (h : m ≤ grown b m n) (k : Nat) : grown b m (n + k) = grown b m n := by
  induction k with
  | zero => rfl
  | succ k ih =>
    show grown b m (n + k + 1) = _
    rw [grown_stop b m (n + k) (by rw [ih]; exact h), ih]
theorem grown_end (b m : Int) (n t : Nat) (hn : n ≤ t) (h : m ≤ grown b m n) : grown b m t = grown b m n := by
  have e := grown_stay b m n h (t - n)
  rwa [Nat.add_sub_cancel' hn] at e
theorem grown_low (b m : Int) (hb : 1 ≤ b) (n : Nat) : b ≤ grown b m n := by
  induction n with
  | zero => exact Int.le_refl _
  | succ n ih =>
    show b ≤ if m ≤ grown b m n then grown b m n else grown b m n * 2
    split <;> omega
theorem grown_high (b m : Int) (hm : b ≤ m) (hb : 1 ≤ b) (n : Nat) : grown b m n ≤ 2 * m := by
  induction n with
  | zero => show b ≤ 2 * m; omega
  | succ n ih =>
    show (if m ≤ grown b m n then grown b m n else grown b m n * 2) ≤ 2 * m
    split <;> omega
/-- Doubled so many times, or the cap is come to both ways. -/
theorem grown_pow (b m : Int) (hb : 1 ≤ b) (n : Nat) : grown b m n = b * 2 ^ n ∨ (m ≤ grown b m n ∧ m ≤ b * 2 ^ n) := by
  induction n with
  | zero => left; show b = b * 2 ^ 0; simp
  | succ n ih =>
    have e : b * 2 ^ (n + 1) = b * 2 ^ n * 2 := by rw [Int.pow_succ, Int.mul_assoc]
    have p : 0 < b * 2 ^ n := Int.mul_pos (by omega) (Int.pow_pos (by decide))
    rw [e]
    generalize b * 2 ^ n = y at *
    by_cases h : m ≤ grown b m n
    · rw [grown_stop b m n h]
      right
      rcases ih with ih | ih <;> omega
    · rw [grown_go b m n (by omega)]
      rcases ih with ih | ih
      · left; omega
      · exact absurd ih.1 h
theorem cap_pow (b m : Int) (hb : 1 ≤ b) (n : Nat) : cap b m n = min (b * 2 ^ n) m := by
  unfold cap
  rcases grown_pow b m hb n with h | h <;> omega
theorem cap_le (b m : Int) (n : Nat) : cap b m n ≤ m := by unfold cap; omega
theorem cap_low (b m : Int) (hb : 1 ≤ b) (hm : b ≤ m) (n : Nat) : b ≤ cap b m n := by
  have := grown_low b m hb n
  unfold cap
  omega
theorem rest_zero (d : Int) (_ : 1 ≤ d) : rest d 0 = d := by unfold rest; simp
theorem rest_in (d j : Int) (hd : 1 ≤ d) : rest d j ≤ d ∧ 3 * d ≤ 4 * rest d j ∧ 1 ≤ rest d j := by
  unfold rest
  have h1 := Int.emod_nonneg j (show d / 4 + 1 ≠ 0 by omega)
  have h2 := Int.emod_lt_of_pos j (show 0 < d / 4 + 1 by omega)
  omega
/-- One try more. -/
theorem cap_next (b m : Int) (hb : 1 ≤ b) (hm : b ≤ m) (n : Nat) : cap b m n ≤ cap b m (n + 1) ∧ cap b m (n + 1) ≤ 2 * cap b m n := by
  have h := grown_low b m hb n
  by_cases h2 : m ≤ grown b m n
  · unfold cap
    rw [grown_stop b m n h2]
    omega
  · unfold cap
    rw [grown_go b m n (by omega)]
    omega
theorem pow_pos (n : Nat) : (0 : Int) < 2 ^ n := Int.pow_pos (by decide)
/-- A higher cap, a higher base. -/
theorem cap_more (b m k : Int) (hb : 1 ≤ b) (hk : 0 ≤ k) (n : Nat) : cap b m n ≤ cap b (m + k) n := by
  rw [cap_pow b m hb, cap_pow b (m + k) hb]
  omega
theorem cap_base (b c m : Int) (hb : 1 ≤ b) (hc : b ≤ c) (n : Nat) : cap b m n ≤ cap c m n := by
  rw [cap_pow b m hb, cap_pow c m (by omega)]
  have := Int.mul_le_mul_of_nonneg_right hc (Int.le_of_lt (pow_pos n))
  omega
/-- What is not the cap is the base doubled, a few times alone. -/
theorem cap_less (b m : Int) (hb : 1 ≤ b) (hm : m ≤ 1000000) (n : Nat) (h : cap b m n ≠ m) : n < 20 ∧ cap b m n = b * 2 ^ n := by
  rw [cap_pow b m hb] at h ⊢
  have e : min (b * 2 ^ n) m = b * 2 ^ n := by omega
  refine ⟨?_, e⟩
  refine Nat.lt_of_not_le fun h20 => ?_
  have h1 : ((2 ^ 20 : Nat) : Int) ≤ ((2 ^ n : Nat) : Int) := Int.ofNat_le.2 (Nat.pow_le_pow_right (by decide) h20)
  rw [Int.natCast_pow, Int.natCast_pow] at h1
  have h2 := Int.mul_le_mul_of_nonneg_right hb (Int.le_of_lt (pow_pos n))
  have h3 : ((2 : Nat) : Int) ^ 20 = 1048576 := by decide
  rw [h3] at h1
  change 1048576 ≤ (2 : Int) ^ n at h1
  omega
end Go.Proofs.Ytikepollbiainaa.Bko
