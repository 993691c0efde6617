/-
  Plain arithmetic of the sixteen-bit frame sum: one bit's step, a byte's, half a byte's; no program is named here.
-/
import Derived.Laws.BitsAllLaws
namespace Go.Proofs.Ytnkkompmdngkgaa.Crc

/-- One bit of the rule. -/
def step (x : Nat) : Nat := if x % 2 = 1 then (x / 2) ^^^ 33800 else x / 2
/-- So many bits. -/
def steps : Nat → Nat → Nat
  | 0, x => x
  | n + 1, x => steps n (step x)

theorem steps_succ (n x : Nat) : steps (n + 1) x = step (steps n x) := by
  induction n generalizing x with
  | zero => rfl
  | succ n ih => rw [steps, ih, steps]
theorem steps_add (m n x : Nat) : steps (m + n) x = steps n (steps m x) := by
  induction m generalizing x with
  | zero => simp [steps]
  | succ m ih => rw [show m + 1 + n = (m + n) + 1 by omega, steps, ih, steps]

theorem step_lt {x : Nat} (h : x < 65536) : step x < 65536 := by
  unfold step; split
  · exact Nat.xor_lt_two_pow (n := 16) (by omega) (by omega)
  · omega
theorem steps_lt {n x : Nat} (h : x < 65536) : steps n x < 65536 := by
  induction n with
  | zero => exact h
  | succ n ih => rw [steps_succ]; exact step_lt ih

theorem half_xor (a b : Nat) : (a ^^^ b) / 2 = a / 2 ^^^ b / 2 := by
  have := Nat.shiftRight_xor_distrib (a := a) (b := b) (i := 1)
  simpa [Nat.shiftRight_eq_div_pow] using this
theorem odd_xor (a b : Nat) : (a ^^^ b) % 2 = (a % 2 + b % 2) % 2 := by
  have h := Nat.testBit_xor a b 0
  simp only [Nat.testBit_zero] at h
  have ha := Nat.mod_two_eq_zero_or_one a
  have hb := Nat.mod_two_eq_zero_or_one b
  have hc := Nat.mod_two_eq_zero_or_one (a ^^^ b)
  rcases ha with ha | ha <;> rcases hb with hb | hb <;> rcases hc with hc | hc <;> simp_all

theorem xor_swap (a b c : Nat) : a ^^^ b ^^^ c = a ^^^ c ^^^ b := by rw [Nat.xor_assoc, Nat.xor_comm b c, ← Nat.xor_assoc]
theorem xor_twice (a b c : Nat) : (a ^^^ c) ^^^ (b ^^^ c) = a ^^^ b := by
  rw [Nat.xor_comm b c, ← Nat.xor_assoc, Nat.xor_assoc a c c, Nat.xor_self, Nat.xor_zero]

theorem step_xor (a b : Nat) : step (a ^^^ b) = step a ^^^ step b := by
  unfold step
  rw [odd_xor, half_xor]
  have ha := Nat.mod_two_eq_zero_or_one a
  have hb := Nat.mod_two_eq_zero_or_one b
  rcases ha with ha | ha <;> rcases hb with hb | hb <;> simp only [ha, hb] <;> simp
  · rw [Nat.xor_assoc]
  · exact xor_swap _ _ _
  · exact (xor_twice _ _ _).symm
theorem steps_xor (n a b : Nat) : steps n (a ^^^ b) = steps n a ^^^ steps n b := by
  induction n generalizing a b with
  | zero => rfl
  | succ n ih => rw [steps, step_xor, ih]; rfl

theorem low_high (x : Nat) : x = (16 * (x / 16)) ^^^ (x % 16) := by
  apply Nat.eq_of_testBit_eq
  intro i
  have e1 : 16 * (x / 16) = 2 ^ 4 * (x / 2 ^ 4) := by simp
  have e2 : x % 16 = x % 2 ^ 4 := by simp
  rw [Nat.testBit_xor, e1, e2, Nat.testBit_mod_two_pow, Nat.testBit_two_pow_mul, Nat.testBit_div_two_pow]
  by_cases h : i < 4
  · simp [h, show ¬ 4 ≤ i by omega]
  · simp [h, show 4 ≤ i by omega, show i - 4 + 4 = i by omega]

theorem step_even (a : Nat) : step (2 * a) = a := by unfold step; rw [if_neg (by omega)]; omega
theorem steps4_high (h : Nat) : steps 4 (16 * h) = h := by
  rw [show 16 * h = 2 * (2 * (2 * (2 * h))) by omega]
  simp only [steps, step_even]
/-- Half a byte at once: what a table of sixteen is for. -/
theorem steps4 (x : Nat) : steps 4 x = x / 16 ^^^ steps 4 (x % 16) := by
  conv => lhs; rw [low_high x]
  rw [steps_xor, steps4_high]

/-- A byte. -/
def byte (c b : Nat) : Nat := steps 8 (c ^^^ b)
theorem byte_lt {c b : Nat} (hc : c < 65536) (hb : b < 256) : byte c b < 65536 := steps_lt (Nat.xor_lt_two_pow (n := 16) (by omega) (by omega))
/-- The register behind so many bytes, begun at c. -/
def regFrom (c : Nat) (l : List UInt8) : Nat := l.foldl (fun c b => byte c b.toNat) c
theorem regFrom_lt {c : Nat} (hc : c < 65536) (l : List UInt8) : regFrom c l < 65536 := by
  induction l generalizing c with
  | nil => exact hc
  | cons b l ih => exact ih (byte_lt hc (by have := b.toNat_lt; omega))
def reg (l : List UInt8) : Nat := regFrom 65535 l
theorem reg_lt (l : List UInt8) : reg l < 65536 := regFrom_lt (by omega) l
theorem reg_snoc (l : List UInt8) (b : UInt8) : reg (l ++ [b]) = byte (reg l) b.toNat := by simp [reg, regFrom]
theorem reg_append (l m : List UInt8) : reg (l ++ m) = regFrom (reg l) m := by simp [reg, regFrom]
/-- The sum of a text. -/
def sum (l : List UInt8) : Nat := reg l ^^^ 65535
theorem sum_lt (l : List UInt8) : sum l < 65536 := Nat.xor_lt_two_pow (n := 16) (reg_lt l) (by omega)
/-- The two bytes of a sum, the low one first. -/
def wire (n : Nat) : List UInt8 := [UInt8.ofNat (n % 256), UInt8.ofNat (n / 256)]
def put (l : List UInt8) : List UInt8 := l ++ wire (sum l)
/-- A sum taken off, or the number of the error. -/
def check (l : List UInt8) : List UInt8 × Int :=
  if l.length < 2 then ([], 100) else if put (l.take (l.length - 2)) = l then (l.take (l.length - 2), 0) else ([], 101)
theorem put_length (l : List UInt8) : (put l).length = l.length + 2 := by simp [put, wire]
theorem check_put (l : List UInt8) : check (put l) = (l, 0) := by
  have h : (put l).take ((put l).length - 2) = l := by
    rw [put_length, Nat.add_sub_cancel, put, List.take_left']
    rfl
  unfold check
  rw [if_neg (by rw [put_length]; omega), h, if_pos rfl]
theorem check_short (l : List UInt8) (h : l.length < 2) : check l = ([], 100) := by rw [check, if_pos h]
/-- What stands behind is compared with the sum's own bytes: the same test. -/
theorem put_iff (b t : List UInt8) : put b = b ++ t ↔ t = wire (sum b) := by
  constructor
  · intro h; exact (List.append_cancel_left h).symm
  · intro h; rw [put, h]
theorem check_split (b t : List UInt8) (h : t.length = 2) : check (b ++ t) = if t = wire (sum b) then (b, 0) else ([], 101) := by
  have hl : (b ++ t).length = b.length + 2 := by simp [h]
  have ht : (b ++ t).take ((b ++ t).length - 2) = b := by rw [hl, Nat.add_sub_cancel, List.take_left']; rfl
  unfold check
  rw [if_neg (by omega), ht]
  by_cases hw : t = wire (sum b)
  · rw [if_pos hw, if_pos ((put_iff b t).2 hw)]
  · rw [if_neg hw, if_neg (fun h => hw ((put_iff b t).1 h))]

end Go.Proofs.Ytnkkompmdngkgaa.Crc
