/-
  Plain arithmetic and lists: a frame as bytes, and back.
-/
import Derived.Test.YtnkkompmdngkgaaSMath
import Derived.Test.YtnkkompmdngkgaaMath
namespace Go.Proofs.Ytnkkompmdngkgaa.Frm
/-- An odd low byte, an even high one. -/
def good (z : Int) : Bool := decide (1 ≤ z) && decide (z ≤ 65535) && decide (z % 2 = 1) && decide (z / 256 % 2 = 0)
theorem good_iff (z : Int) : good z = true ↔ 1 ≤ z ∧ z ≤ 65535 ∧ z % 2 = 1 ∧ z / 256 % 2 = 0 := by
  unfold good
  simp [and_assoc]
theorem good_nat (z : Int) (h : good z = true) : ∃ n : Nat, z = n ∧ 1 ≤ n ∧ n < 65536 ∧ n % 2 = 1 ∧ n / 256 % 2 = 0 := by
  obtain ⟨h1, h2, h3, h4⟩ := (good_iff z).1 h
  exact ⟨z.toNat, by omega, by omega, by omega, by omega, by omega⟩
theorem and256 (n : Nat) : n &&& 2 ^ 8 = if n / 256 % 2 = 1 then 2 ^ 8 else 0 := by
  have hb : n.testBit 8 = decide (n / 256 % 2 = 1) := Nat.testBit_eq_decide_div_mod_eq
  apply Nat.eq_of_testBit_eq
  intro i
  rw [Nat.testBit_and, Nat.testBit_two_pow]
  by_cases h : 8 = i
  · subst h
    rw [hb]
    split
    · rename_i k
      rw [k]
      decide
    · rename_i k
      simp [k]
  · rw [decide_eq_false h, Bool.and_false]
    split
    · rw [Nat.testBit_two_pow, decide_eq_false h]
    · simp
theorem and257 (n : Nat) : (n &&& 257 = 1) ↔ (n % 2 = 1 ∧ n / 256 % 2 = 0) := by
  have e : (257 : Nat) = 1 ||| 2 ^ 8 := by decide
  rw [e, Nat.and_or_distrib_left, Nat.and_one_is_mod, and256]
  rcases Nat.mod_two_eq_zero_or_one n with h | h <;> rcases Nat.mod_two_eq_zero_or_one (n / 256) with k | k <;> simp [h, k]
/-- The head of a frame that carries protocol n. -/
def two (n : Nat) : List UInt8 := [UInt8.ofNat (n / 256), UInt8.ofNat (n % 256)]
def body (n : Nat) (l : List UInt8) : List UInt8 := [255, 3] ++ two n ++ l
def wire (m : Int) (n : Nat) (l : List UInt8) : List UInt8 := Stf.put m (Crc.put (body n l))
def code (z : Int) (k : Nat) : Int := if good z = false then 303 else if 2048 < k then 304 else 0
def put (z : Int) (l : List UInt8) (m : Int) : List UInt8 × Int :=
  if code z l.length = 0 then ([126] ++ wire m z.toNat l ++ [126], 0) else ([], code z l.length)
/-- What a text with its sum taken off says. -/
def read : List UInt8 → (Int × List UInt8) × Int
  | 255 :: 3 :: a :: b :: d => if code (256 * a.toNat + b.toNat : Nat) d.length = 0 then (((256 * a.toNat + b.toNat : Nat), d), 0) else ((0, []), code (256 * a.toNat + b.toNat : Nat) d.length)
  | _ => ((0, []), 302)
def unsum (t : List UInt8) : (Int × List UInt8) × Int := if (Crc.check t).2 = 0 then read (Crc.check t).1 else ((0, []), 301)
def get (s : List UInt8) : (Int × List UInt8) × Int :=
  if (Stf.get s).2 ≠ 0 ∨ (Stf.get s).1.length < 6 then ((0, []), 300) else unsum (Stf.get s).1
theorem body_length (n : Nat) (l : List UInt8) : (body n l).length = l.length + 4 := by simp [body, two]
theorem wire_length (m : Int) (n : Nat) (l : List UInt8) : l.length + 6 ≤ (wire m n l).length ∧ (wire m n l).length ≤ 2 * (l.length + 6) := by
  have h := Stf.put_length m (Crc.put (body n l))
  rw [Crc.put_length, body_length] at h
  exact h
theorem two_back (n : Nat) (h : n < 65536) : 256 * (UInt8.ofNat (n / 256)).toNat + (UInt8.ofNat (n % 256)).toNat = n := by simp; omega
theorem read_body (n : Nat) (l : List UInt8) (hn : n < 65536) : read (body n l) = if code n l.length = 0 then (((n : Int), l), 0) else ((0, []), code n l.length) := by
  show read (255 :: 3 :: UInt8.ofNat (n / 256) :: UInt8.ofNat (n % 256) :: l) = _
  rw [read, two_back n hn]
theorem get_sealed (m : Int) (u : List UInt8) (h : 4 ≤ u.length) : get (Stf.put m (Crc.put u)) = read u := by
  unfold get
  rw [Stf.get_put]
  rw [if_neg (by simp [Crc.put_length]; omega)]
  unfold unsum
  rw [Crc.check_put, if_pos rfl]
theorem get_short (m : Int) (u : List UInt8) (h : u.length < 4) : get (Stf.put m (Crc.put u)) = ((0, []), 300) := by
  unfold get
  rw [Stf.get_put]
  rw [if_pos (by simp [Crc.put_length]; omega)]
theorem get_wire (m : Int) (n : Nat) (l : List UInt8) (h : good n = true) (hl : l.length ≤ 2048) : get (wire m n l) = (((n : Int), l), 0) := by
  obtain ⟨k, e, _, hk, _, _⟩ := good_nat _ h
  unfold wire
  rw [get_sealed _ _ (by rw [body_length]; omega), read_body _ _ (by omega), if_pos]
  unfold code
  rw [if_neg (by simp [h]), if_neg (by omega)]
theorem code_good (z : Int) (k : Nat) (h : good z = true) (hk : k ≤ 2048) : code z k = 0 := by
  unfold code
  rw [if_neg (by simp [h]), if_neg (by omega)]
theorem code_bad (z : Int) (k : Nat) (h : good z = false) : code z k = 303 := by
  unfold code
  rw [if_pos h]
theorem code_long (z : Int) (k : Nat) (h : good z = true) (hk : 2048 < k) : code z k = 304 := by
  unfold code
  rw [if_neg (by simp [h]), if_pos hk]
theorem code_ways (z : Int) (k : Nat) : (good z = false ∧ code z k = 303) ∨ (good z = true ∧ 2048 < k ∧ code z k = 304) ∨ (good z = true ∧ k ≤ 2048 ∧ code z k = 0) := by
  cases hz : good z
  · exact .inl ⟨rfl, code_bad _ _ hz⟩
  · by_cases hk : 2048 < k
    · exact .inr (.inl ⟨rfl, hk, code_long _ _ hz hk⟩)
    · exact .inr (.inr ⟨rfl, by omega, code_good _ _ hz (by omega)⟩)
theorem put_bad (z : Int) (l : List UInt8) (m : Int) (h : code z l.length ≠ 0) : put z l m = ([], code z l.length) := by rw [put, if_neg h]
theorem put_good (z : Int) (l : List UInt8) (m : Int) (h : code z l.length = 0) : put z l m = ([126] ++ wire m z.toNat l ++ [126], 0) := by rw [put, if_pos h]
end Go.Proofs.Ytnkkompmdngkgaa.Frm
