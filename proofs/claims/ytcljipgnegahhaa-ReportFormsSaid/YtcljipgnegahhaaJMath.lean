/-
  Plain lists: numbers as a report of four bytes each, and back.
-/
import Derived.Test.YtcljipgnegahhaaOwn
namespace Go.Proofs.Ytcljipgnegahhaa.Rep
def ok (z : Int) : Bool := decide (0 ≤ z) && decide (z ≤ 4294967295)
def good (zs : List Int) : Bool := decide (zs.length = 12) && zs.all ok
def code (zs : List Int) : Int := if good zs = true then 0 else 700
/-- A number's four bytes, the high one first. -/
def four (n : Nat) : List UInt8 := [UInt8.ofNat (n / 16777216), UInt8.ofNat (n / 65536), UInt8.ofNat (n / 256), UInt8.ofNat n]
def wires (zs : List Int) : List UInt8 := zs.flatMap fun z => four z.toNat
def put (zs : List Int) : List UInt8 := if good zs = true then wires zs else []
/-- Bytes as a number, the high one first. -/
def val (l : List UInt8) : Nat := l.foldl (fun a b => a * 256 + b.toNat) 0
/-- Bytes as numbers of four bytes each. -/
def nums : List UInt8 → List Int
  | a :: b :: c :: d :: r => (val [a, b, c, d] : Int) :: nums r
  | _ => []
def get (l : List UInt8) : List Int × Int := if l.length = 48 then (nums l, 0) else ([], 700)
theorem four_length (n : Nat) : (four n).length = 4 := rfl
theorem wires_cons (z : Int) (r : List Int) : wires (z :: r) = four z.toNat ++ wires r := rfl
theorem wires_append (l r : List Int) : wires (l ++ r) = wires l ++ wires r := by simp [wires]
theorem wires_length (zs : List Int) : (wires zs).length = 4 * zs.length := by
  induction zs with
  | nil => rfl
  | cons z r ih => rw [wires_cons, List.length_append, ih, four_length, List.length_cons]; omega
theorem val_four (a b c d : UInt8) : val [a, b, c, d] = a.toNat * 16777216 + b.toNat * 65536 + c.toNat * 256 + d.toNat := by
  simp only [val, List.foldl_cons, List.foldl_nil]
  omega
theorem val_lt4 (a b c d : UInt8) : val [a, b, c, d] < 4294967296 := by
  rw [val_four]
  have := a.toNat_lt
  have := b.toNat_lt
  have := c.toNat_lt
  have := d.toNat_lt
  omega
theorem four_val (a b c d : UInt8) : four (val [a, b, c, d]) = [a, b, c, d] := by
  rw [val_four]
  have h1 := a.toNat_lt
  have h2 := b.toNat_lt
  have h3 := c.toNat_lt
  have h4 := d.toNat_lt
  have e1 : UInt8.ofNat ((a.toNat * 16777216 + b.toNat * 65536 + c.toNat * 256 + d.toNat) / 16777216) = a := by
    apply UInt8.toNat_inj.1; simp; omega
  have e2 : UInt8.ofNat ((a.toNat * 16777216 + b.toNat * 65536 + c.toNat * 256 + d.toNat) / 65536) = b := by
    apply UInt8.toNat_inj.1; simp; omega
  have e3 : UInt8.ofNat ((a.toNat * 16777216 + b.toNat * 65536 + c.toNat * 256 + d.toNat) / 256) = c := by
    apply UInt8.toNat_inj.1; simp; omega
  have e4 : UInt8.ofNat (a.toNat * 16777216 + b.toNat * 65536 + c.toNat * 256 + d.toNat) = d := by
    apply UInt8.toNat_inj.1; simp <;> omega
  unfold four
  rw [e1, e2, e3, e4]
theorem val_of (n : Nat) (h : n < 4294967296) : val (four n) = n := by
  unfold four
  rw [val_four]
  simp
  omega
theorem nums_four (n : Nat) (r : List UInt8) : nums (four n ++ r) = (val (four n) : Int) :: nums r := rfl
theorem ok_iff (z : Int) : ok z = true ↔ 0 ≤ z ∧ z ≤ 4294967295 := by simp [ok]
/-- What was put comes back. -/
theorem nums_wires (zs : List Int) (h : zs.all ok = true) : nums (wires zs) = zs := by
  induction zs with
  | nil => rfl
  | cons z r ih =>
    rw [List.all_cons, Bool.and_eq_true] at h
    obtain ⟨h1, h2⟩ := h
    obtain ⟨h3, h4⟩ := (ok_iff z).1 h1
    rw [wires_cons, nums_four, ih h2, val_of _ (by omega)]
    congr 1
    omega
theorem nums_append : ∀ (n : Nat) (l r : List UInt8), l.length = 4 * n → nums (l ++ r) = nums l ++ nums r := by
  intro n
  induction n with
  | zero => intro l r h; obtain rfl : l = [] := List.length_eq_zero_iff.1 (by omega); rfl
  | succ n ih =>
    intro l r h
    match l, h with
    | a :: b :: c :: d :: l, h =>
      have e := ih l r (by simp at h; omega)
      show _ :: nums (l ++ r) = _ :: nums l ++ nums r
      rw [e]; rfl
theorem nums_length : ∀ (n : Nat) (l : List UInt8), l.length = 4 * n → (nums l).length = n := by
  intro n
  induction n with
  | zero => intro l h; obtain rfl : l = [] := List.length_eq_zero_iff.1 (by omega); rfl
  | succ n ih =>
    intro l h
    match l, h with
    | a :: b :: c :: d :: l, h =>
      have e := ih l (by simp at h; omega)
      show (_ :: nums l).length = _
      rw [List.length_cons, e]
theorem nums_ok : ∀ (n : Nat) (l : List UInt8), l.length = 4 * n → (nums l).all ok = true := by
  intro n
  induction n with
  | zero => intro l h; obtain rfl : l = [] := List.length_eq_zero_iff.1 (by omega); rfl
  | succ n ih =>
    intro l h
    match l, h with
    | a :: b :: c :: d :: l, h =>
      have e := ih l (by simp at h; omega)
      show (_ :: nums l).all ok = true
      rw [List.all_cons, e, Bool.and_true, ok_iff]
      have := val_lt4 a b c d
      omega
/-- Bytes that were read are written as they stood. -/
theorem wires_nums : ∀ (n : Nat) (l : List UInt8), l.length = 4 * n → wires (nums l) = l := by
  intro n
  induction n with
  | zero => intro l h; obtain rfl : l = [] := List.length_eq_zero_iff.1 (by omega); rfl
  | succ n ih =>
    intro l h
    match l, h with
    | a :: b :: c :: d :: l, h =>
      have e := ih l (by simp at h; omega)
      show wires (_ :: nums l) = _
      rw [wires_cons, e, Int.toNat_natCast, four_val]
      rfl
theorem good_iff (zs : List Int) : good zs = true ↔ zs.length = 12 ∧ zs.all ok = true := by simp [good]
theorem good_nums (l : List UInt8) (h : l.length = 48) : good (nums l) = true := (good_iff _).2 ⟨nums_length 12 l (by omega), nums_ok 12 l (by omega)⟩
theorem put_good (zs : List Int) (h : good zs = true) : put zs = wires zs ∧ code zs = 0 := ⟨if_pos h, if_pos h⟩
theorem put_bad (zs : List Int) (h : good zs = false) : put zs = [] ∧ code zs = 700 := ⟨if_neg (by simp [h]), if_neg (by simp [h])⟩
theorem get_good (l : List UInt8) (h : l.length = 48) : get l = (nums l, 0) := if_pos h
theorem get_bad (l : List UInt8) (h : l.length ≠ 48) : get l = ([], 700) := if_neg h
theorem get_put (zs : List Int) (h : good zs = true) : get (put zs) = (zs, 0) := by
  obtain ⟨h1, h2⟩ := (good_iff zs).1 h
  rw [(put_good zs h).1, get_good _ (by rw [wires_length]; omega), nums_wires zs h2]
theorem put_get (l : List UInt8) (h : l.length = 48) : put (nums l) = l ∧ code (nums l) = 0 := by
  obtain ⟨h1, h2⟩ := put_good _ (good_nums l h)
  exact ⟨h1.trans (wires_nums 12 l (by omega)), h2⟩
theorem wires_snoc (zs : List Int) (k : Nat) (h : k < zs.length) : wires (zs.take (k + 1)) = wires (zs.take k) ++ four zs[k].toNat := by
  rw [List.take_succ_eq_append_getElem h, wires_append]
  simp [wires]
/-- One number more. -/
theorem nums_snoc (l : List UInt8) (k : Nat) (h : 4 * k + 3 < l.length) :
    nums (l.take (4 * (k + 1))) = nums (l.take (4 * k)) ++ [(val [l[4 * k], l[4 * k + 1], l[4 * k + 2], l[4 * k + 3]] : Int)] := by
  have e : l.take (4 * (k + 1)) = l.take (4 * k) ++ [l[4 * k], l[4 * k + 1], l[4 * k + 2], l[4 * k + 3]] := by
    rw [show 4 * (k + 1) = 4 * k + 1 + 1 + 1 + 1 by omega, List.take_succ_eq_append_getElem (by omega), List.take_succ_eq_append_getElem (by omega), List.take_succ_eq_append_getElem (by omega), List.take_succ_eq_append_getElem (by omega)]
    simp only [List.append_assoc, List.cons_append, List.nil_append]
  rw [e, nums_append k _ _ (by rw [List.length_take]; omega)]
  rfl
/-- The twelve, so many bytes read: whole numbers, one begun, zeros. -/
def row (l : List UInt8) (k : Nat) : List Int := (List.range 12).map fun j => (val (((l.take k).drop (4 * j)).take 4) : Int)
theorem row_length (l : List UInt8) (k : Nat) : (row l k).length = 12 := by simp [row]
theorem row_at (l : List UInt8) (k j : Nat) (h : j < 12) : (row l k)[j]'(by rw [row_length]; exact h) = (val (((l.take k).drop (4 * j)).take 4) : Int) := by simp [row]
theorem row_start (l : List UInt8) : row l 0 = List.replicate 12 0 := by
  simp [row, val]
  decide
theorem val_snoc (l : List UInt8) (b : UInt8) : val (l ++ [b]) = val l * 256 + b.toNat := by simp [val]
theorem val_lt3 (l : List UInt8) (h : l.length ≤ 3) : val l < 16777216 := by
  match l, h with
  | [], _ => decide
  | [a], _ => have := a.toNat_lt; simp [val]; omega
  | [a, b], _ => have := a.toNat_lt; have := b.toNat_lt; simp [val]; omega
  | [a, b, c], _ => have := a.toNat_lt; have := b.toNat_lt; have := c.toNat_lt; simp [val]; omega
/-- A byte more: the number that it stands in alone turns. -/
theorem row_step (l : List UInt8) (k : Nat) (h : k < l.length) (h48 : k < 48) :
    ∃ n : Nat, n < 16777216 ∧ (row l k)[k / 4]'(by rw [row_length]; omega) = (n : Int) ∧ row l (k + 1) = (row l k).set (k / 4) ((n * 256 + l[k].toNat : Nat) : Int) := by
  have hj : k / 4 < 12 := by omega
  refine ⟨val (((l.take k).drop (4 * (k / 4))).take 4), ?_, row_at l k _ hj, ?_⟩
  · refine val_lt3 _ ?_
    simp only [List.length_take, List.length_drop]
    omega
  · refine List.ext_getElem (by simp [row_length]) fun j h1 h2 => ?_
    have hj2 : j < 12 := by rwa [row_length] at h1
    rw [row_at l _ j hj2, List.getElem_set]
    rw [List.take_succ_eq_append_getElem h]
    by_cases e : k / 4 = j
    · subst e
      rw [if_pos rfl, List.drop_append_of_le_length (by rw [List.length_take]; omega), ← val_snoc, List.take_of_length_le (l := (l.take k).drop (4 * (k / 4))) (by simp only [List.length_take, List.length_drop]; omega), List.take_of_length_le (by simp only [List.length_append, List.length_take, List.length_drop, List.length_singleton]; omega)]
    · rw [if_neg e, row_at l k j hj2]
      rcases Nat.lt_or_ge (k / 4) j with hlt | hge
      · rw [List.drop_eq_nil_of_le (by simp only [List.length_append, List.length_take, List.length_singleton]; omega), List.drop_eq_nil_of_le (by simp only [List.length_take]; omega)]
      · rw [List.drop_append_of_le_length (by rw [List.length_take]; omega), List.take_append_of_le_length (by simp only [List.length_take, List.length_drop]; omega)]
theorem row_nums : ∀ (n : Nat) (l : List UInt8), l.length = 4 * n → ((List.range n).map fun j => (val ((l.drop (4 * j)).take 4) : Int)) = nums l := by
  intro n
  induction n with
  | zero => intro l h; obtain rfl : l = [] := List.length_eq_zero_iff.1 (by omega); rfl
  | succ n ih =>
    intro l h
    match l, h with
    | a :: b :: c :: d :: l, h =>
      have e := ih l (by simp at h; omega)
      show _ = (val [a, b, c, d] : Int) :: nums l
      rw [List.range_succ_eq_map, List.map_cons, List.map_map, ← e]
      congr 1
/-- All bytes read. -/
theorem row_end (l : List UInt8) (h : l.length = 48) : row l 48 = nums l := by
  rw [← row_nums 12 l (by omega)]
  unfold row
  rw [List.take_of_length_le (by omega)]
end Go.Proofs.Ytcljipgnegahhaa.Rep
