/-
  Plain arithmetic: one, two or three bits turned in a text of at most 1502 bytes are seen by the sum.
-/
import Derived.Test.YtnkkompmdngkgaaMath1
namespace Go.Proofs.Ytnkkompmdngkgaa.Crc

/-! ### How many bits are set, odd or even -/
def par : Nat → Nat → Bool
  | 0, _ => false
  | n + 1, x => (decide (x % 2 = 1)) ^^ par n (x / 2)
theorem par_xor (n a b : Nat) : par n (a ^^^ b) = (par n a ^^ par n b) := by
  induction n generalizing a b with
  | zero => rfl
  | succ n ih =>
    simp only [par, half_xor, ih, odd_xor]
    have ha := Nat.mod_two_eq_zero_or_one a
    have hb := Nat.mod_two_eq_zero_or_one b
    rcases ha with ha | ha <;> rcases hb with hb | hb <;> cases par n (a / 2) <;> cases par n (b / 2) <;> simp [ha, hb]
theorem par_zero (n : Nat) : par n 0 = false := by
  induction n with
  | zero => rfl
  | succ n ih => simp [par, ih]
theorem par_more (n x : Nat) (h : x < 2 ^ n) : par (n + 1) x = par n x := by
  induction n generalizing x with
  | zero => have : x = 0 := by simpa using h
            subst this; rfl
  | succ n ih => rw [par, ih (x / 2) (by rw [Nat.pow_succ] at h; omega), par]
theorem par_step (x : Nat) (h : x < 65536) : par 16 (step x) = par 16 x := by
  have h2 := par_more 15 (x / 2) (by omega)
  unfold step
  rw [show par 16 x = (decide (x % 2 = 1) ^^ par 15 (x / 2)) from rfl, ← h2]
  split
  · rename_i ho
    rw [par_xor, show par 16 33800 = true by decide, ho]
    cases par 16 (x / 2) <;> rfl
  · rename_i ho
    simp [ho]
theorem par_steps (n x : Nat) (h : x < 65536) : par 16 (steps n x) = par 16 x := by
  induction n with
  | zero => rfl
  | succ n ih => rw [steps_succ, par_step _ (steps_lt h), ih]

/-! ### A step forgets nothing -/
theorem xor_same {a b : Nat} (h : a ^^^ b = 0) : a = b := by
  rw [← Nat.xor_zero a, ← Nat.xor_self b, ← Nat.xor_assoc, h, Nat.zero_xor]
theorem step_zero {x : Nat} (h : x < 65536) (hz : step x = 0) : x = 0 := by
  unfold step at hz
  split at hz
  · have := xor_same hz; omega
  · omega
theorem steps_zero {n x : Nat} (h : x < 65536) (hz : steps n x = 0) : x = 0 := by
  induction n with
  | zero => exact hz
  | succ n ih => rw [steps_succ] at hz; exact ih (step_zero (steps_lt h) hz)
theorem steps_inj {n a b : Nat} (ha : a < 65536) (hb : b < 65536) (h : steps n a = steps n b) : a = b := by
  have : steps n (a ^^^ b) = 0 := by rw [steps_xor, h, Nat.xor_self]
  exact xor_same (steps_zero (Nat.xor_lt_two_pow (n := 16) (by omega) (by omega)) this)

/-! ### One bit does not come back to itself so soon -/
def apart : Nat → Nat → Bool
  | 0, _ => true
  | n + 1, x => (x != 1) && apart n (step x)
theorem apart_at (n x d : Nat) (h : apart n x = true) (hd : d < n) : steps d x ≠ 1 := by
  induction n generalizing x d with
  | zero => omega
  | succ n ih =>
    rw [apart, Bool.and_eq_true] at h
    cases d with
    | zero => simpa [steps] using h.1
    | succ d => exact ih (step x) d h.2 (by omega)
theorem apart_all : apart 12016 (step 1) = true := by decide +kernel
theorem one_apart (d : Nat) (h1 : 1 ≤ d) (h2 : d ≤ 12016) : steps d 1 ≠ 1 := by
  obtain ⟨k, rfl⟩ : ∃ k, d = k + 1 := ⟨d - 1, by omega⟩
  exact apart_at 12016 (step 1) k apart_all (by omega)
theorem two_apart (a b : Nat) (ha : a ≤ 12016) (hb : b ≤ 12016) (hne : a ≠ b) : steps a 1 ≠ steps b 1 := by
  intro h
  rcases Nat.lt_or_gt_of_ne hne with hlt | hlt
  · rw [show b = (b - a) + a by omega, steps_add] at h
    exact one_apart (b - a) (by omega) (by omega) (steps_inj (by omega) (steps_lt (by omega)) h).symm
  · rw [show a = (a - b) + b by omega, steps_add] at h
    exact one_apart (a - b) (by omega) (by omega) (steps_inj (steps_lt (by omega)) (by omega) h)

/-! ### One bit turned in a text -/
def flip (l : List UInt8) (k : Nat) : List UInt8 := l.set (k / 8) (l.getD (k / 8) 0 ^^^ UInt8.ofNat (2 ^ (k % 8)))
theorem flip_length (l : List UInt8) (k : Nat) : (flip l k).length = l.length := by simp [flip]
theorem regFrom_xor (x d : Nat) (m : List UInt8) : regFrom (x ^^^ d) m = regFrom x m ^^^ steps (8 * m.length) d := by
  induction m generalizing x d with
  | nil => rfl
  | cons b m ih =>
    show regFrom (byte (x ^^^ d) b.toNat) m = regFrom (byte x b.toNat) m ^^^ _
    have e : byte (x ^^^ d) b.toNat = byte x b.toNat ^^^ steps 8 d := by
      unfold byte
      rw [xor_swap, steps_xor]
    rw [e, ih, ← steps_add, List.length_cons, show 8 * (m.length + 1) = 8 + 8 * m.length by omega]
theorem steps_pow (n i : Nat) : steps (n + i) (2 ^ i) = steps n 1 := by
  induction i with
  | zero => rfl
  | succ i ih =>
    rw [show n + (i + 1) = (n + i) + 1 by omega, steps, Nat.pow_succ, Nat.mul_comm, step_even, ih]
theorem bit_lt (i : Nat) (h : i < 8) : 2 ^ i < 256 := by
  have : 2 ^ i ≤ 2 ^ 7 := Nat.pow_le_pow_right (by omega) (by omega)
  omega
theorem reg_flip (l : List UInt8) (k : Nat) (hk : k < 8 * l.length) : reg (flip l k) = reg l ^^^ steps (8 * l.length - k) 1 := by
  have hj : k / 8 < l.length := by omega
  obtain ⟨l1, c, l2, rfl, h1⟩ : ∃ l1 c l2, l = l1 ++ c :: l2 ∧ l1.length = k / 8 :=
    ⟨l.take (k / 8), l[k / 8], l.drop (k / 8 + 1), by rw [List.getElem_cons_drop, List.take_append_drop], by simp; omega⟩
  have e : flip (l1 ++ c :: l2) k = l1 ++ (c ^^^ UInt8.ofNat (2 ^ (k % 8))) :: l2 := by
    unfold flip
    rw [← h1]
    simp
  have hb : (UInt8.ofNat (2 ^ (k % 8))).toNat = 2 ^ (k % 8) := by
    have := bit_lt (k % 8) (by omega)
    simp
    omega
  rw [e, reg_append, reg_append]
  show regFrom (byte (reg l1) (c ^^^ UInt8.ofNat (2 ^ (k % 8))).toNat) l2 = regFrom (byte (reg l1) c.toNat) l2 ^^^ _
  have e2 : byte (reg l1) (c ^^^ UInt8.ofNat (2 ^ (k % 8))).toNat = byte (reg l1) c.toNat ^^^ steps 8 (2 ^ (k % 8)) := by
    unfold byte
    rw [UInt8.toNat_xor, hb, ← Nat.xor_assoc, steps_xor]
  rw [e2, regFrom_xor, ← steps_add]
  congr 1
  have hlen : (l1 ++ c :: l2).length = k / 8 + (l2.length + 1) := by simp [h1]
  have : 8 + 8 * l2.length = (8 * (l1 ++ c :: l2).length - k) + k % 8 := by rw [hlen]; omega
  rw [this, steps_pow]
theorem flip_twice (l : List UInt8) (k : Nat) : flip (flip l k) k = l := by
  unfold flip
  rw [List.set_set]
  by_cases h : k / 8 < l.length
  · have e : (l.set (k / 8) (l.getD (k / 8) 0 ^^^ UInt8.ofNat (2 ^ (k % 8)))).getD (k / 8) 0 = l.getD (k / 8) 0 ^^^ UInt8.ofNat (2 ^ (k % 8)) := by simp [List.getD, h]
    rw [e, UInt8.xor_assoc, UInt8.xor_self, UInt8.xor_zero]
    simp [List.getD, h]
  · rw [List.set_eq_of_length_le (by omega)]

/-! ### What the sum sees -/
theorem check_bad (l : List UInt8) (h2 : 2 ≤ l.length) (h : reg l ≠ steps 16 65535) : check l = ([], 101) := by
  unfold check
  rw [if_neg (by omega), if_neg]
  intro e
  rw [← e, reg_put] at h
  exact h rfl
theorem one_bad (l : List UInt8) (n : Nat) (hr : reg l = steps 16 65535 ^^^ n) (hn : par 16 n = true) (h2 : 2 ≤ l.length) : check l = ([], 101) := by
  refine check_bad l h2 ?_
  intro e
  rw [hr] at e
  have : n = 0 := by
    have h3 : steps 16 65535 ^^^ n ^^^ steps 16 65535 = 0 := by rw [e, Nat.xor_self]
    rw [xor_swap, Nat.xor_self, Nat.zero_xor] at h3
    exact h3
  rw [this, par_zero] at hn
  cases hn
theorem par_one (n : Nat) : par 16 (steps n 1) = true := by rw [par_steps n 1 (by omega)]; decide
/-- At most three bits turned: the text is as it was, or its sum is wrong. -/
theorem turned (t : List UInt8) (ks : List Nat) (ht : reg t = steps 16 65535) (h2 : 2 ≤ t.length) (hl : t.length ≤ 1502) (hks : ks.length ≤ 3) (hk : ∀ k ∈ ks, k < 8 * t.length) (hne : ks.foldl flip t ≠ t) :
    check (ks.foldl flip t) = ([], 101) := by
  match ks, hks with
  | [], _ => exact absurd rfl hne
  | [a], _ =>
    have ha := hk a (by simp)
    refine one_bad _ (steps (8 * t.length - a) 1) ?_ (par_one _) ?_
    · show reg (flip t a) = _
      rw [reg_flip t a ha, ht]
    · simpa [flip_length] using h2
  | [a, b], _ =>
    have ha := hk a (by simp)
    have hb := hk b (by simp)
    have hab : a ≠ b := by
      rintro rfl
      exact hne (flip_twice t a)
    refine check_bad _ (by simpa [flip_length] using h2) ?_
    show reg (flip (flip t a) b) ≠ _
    rw [reg_flip _ b (by rw [flip_length]; exact hb), reg_flip t a ha, ht, flip_length, Nat.xor_assoc]
    intro e
    have h3 : steps (8 * t.length - a) 1 ^^^ steps (8 * t.length - b) 1 = 0 := by
      have h3 : steps 16 65535 ^^^ (steps (8 * t.length - a) 1 ^^^ steps (8 * t.length - b) 1) ^^^ steps 16 65535 = 0 := by rw [e, Nat.xor_self]
      rw [xor_swap, Nat.xor_self, Nat.zero_xor] at h3
      exact h3
    exact two_apart (8 * t.length - a) (8 * t.length - b) (by omega) (by omega) (by omega) (xor_same h3)
  | [a, b, c], _ =>
    have ha := hk a (by simp)
    have hb := hk b (by simp)
    have hc := hk c (by simp)
    refine one_bad _ (steps (8 * t.length - a) 1 ^^^ steps (8 * t.length - b) 1 ^^^ steps (8 * t.length - c) 1) ?_ ?_ ?_
    · show reg (flip (flip (flip t a) b) c) = _
      rw [reg_flip _ c (by rw [flip_length, flip_length]; exact hc), reg_flip _ b (by rw [flip_length]; exact hb), reg_flip t a ha, ht]
      simp only [flip_length, Nat.xor_assoc]
    · rw [par_xor, par_xor, par_one, par_one, par_one]; rfl
    · simpa [flip_length] using h2
end Go.Proofs.Ytnkkompmdngkgaa.Crc
