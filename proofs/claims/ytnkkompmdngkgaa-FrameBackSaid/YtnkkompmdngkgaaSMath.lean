/-
  Bytes that may not stand, plain: stuffed, undone, split, as functions on lists of bytes; the laws' arithmetic.
-/
import Derived.WalkKit
namespace Go.Proofs.Ytnkkompmdngkgaa.Stf
theorem snoc_ind {motive : List UInt8 → Prop} (nil : motive []) (snoc : ∀ l b, motive l → motive (l ++ [b])) (l : List UInt8) : motive l := by
  have h : ∀ l : List UInt8, motive l.reverse := fun l => by
    induction l with
    | nil => exact nil
    | cons b l ih => rw [List.reverse_cons]; exact snoc _ _ ih
  have h2 := h l.reverse
  rwa [List.reverse_reverse] at h2
/-- Bit 'n' of a whole number. -/
def mb (z : Int) (n : Nat) : Bool := decide (z / 2 ^ n % 2 = 1)
/-- A number's lower bits are those of its rest by a greater power of two. -/
theorem bit_wrap (z : Int) (n N : Nat) (h : n < N) : z % 2 ^ N / 2 ^ n % 2 = z / 2 ^ n % 2 := by
  have e : (2 : Int) ^ N = 2 ^ n * (2 * 2 ^ (N - 1 - n)) := by
    rw [← Int.pow_succ', ← Int.pow_add]; congr 1; omega
  have hp : (2 : Int) ^ n ≠ 0 := by
    have := Int.pow_pos (n := (2 : Int)) (m := n) (by omega)
    omega
  have hz : z = z % 2 ^ N + 2 ^ n * (2 * 2 ^ (N - 1 - n) * (z / 2 ^ N)) := by
    have := Int.emod_add_mul_ediv z (2 ^ N)
    rw [← Int.mul_assoc, ← e, this]
  have h2 : z / 2 ^ n = z % 2 ^ N / 2 ^ n + 2 * (2 ^ (N - 1 - n) * (z / 2 ^ N)) := by
    conv => lhs; rw [hz]
    rw [Int.add_mul_ediv_left _ _ hp, Int.mul_assoc]
  rw [h2]
  generalize z % 2 ^ N / 2 ^ n = a
  generalize 2 ^ (N - 1 - n) * (z / 2 ^ N) = c
  omega
/-- A byte that may not stand by the map 'z'. -/
def mns (z : Int) (b : UInt8) : Bool := b == 126 || b == 125 || (decide (b.toNat < 32) && mb z b.toNat)
theorem mns_flag (z : Int) (b : UInt8) (h : (b.toNat : Int) = 126) : mns z b = true := by
  obtain rfl : b = 126 := UInt8.toNat_inj.1 (by simp; omega)
  rfl
theorem mns_mark (z : Int) (b : UInt8) (h : (b.toNat : Int) = 125) : mns z b = true := by
  obtain rfl : b = 125 := UInt8.toNat_inj.1 (by simp; omega)
  rfl
theorem mns_low (z : Int) (b : UInt8) (h1 : ¬ (b.toNat : Int) = 126) (h2 : ¬ (b.toNat : Int) = 125) (h3 : b.toNat < 32) : mns z b = decide (z / 2 ^ b.toNat % 2 = 1) := by
  have e1 : (b == 126) = false := by rw [beq_eq_false_iff_ne]; rintro rfl; exact h1 rfl
  have e2 : (b == 125) = false := by rw [beq_eq_false_iff_ne]; rintro rfl; exact h2 rfl
  simp [mns, mb, e1, e2, h3]
theorem mns_high (z : Int) (b : UInt8) (h1 : ¬ (b.toNat : Int) = 126) (h2 : ¬ (b.toNat : Int) = 125) (h3 : 32 ≤ b.toNat) : mns z b = false := by
  have e1 : (b == 126) = false := by rw [beq_eq_false_iff_ne]; rintro rfl; exact h1 rfl
  have e2 : (b == 125) = false := by rw [beq_eq_false_iff_ne]; rintro rfl; exact h2 rfl
  simp [mns, e1, e2, show ¬ b.toNat < 32 by omega]
def one (z : Int) (b : UInt8) : List UInt8 := if mns z b = true then [125, b ^^^ 32] else [b]
def put (z : Int) (l : List UInt8) : List UInt8 := l.flatMap (one z)
theorem put_nil (z : Int) : put z [] = [] := rfl
theorem put_append (z : Int) (l r : List UInt8) : put z (l ++ r) = put z l ++ put z r := by simp [put]
theorem put_snoc (z : Int) (l : List UInt8) (b : UInt8) : put z (l ++ [b]) = put z l ++ one z b := by simp [put]
theorem one_length (z : Int) (b : UInt8) : 1 ≤ (one z b).length ∧ (one z b).length ≤ 2 := by unfold one; split <;> simp
theorem put_length (z : Int) (l : List UInt8) : l.length ≤ (put z l).length ∧ (put z l).length ≤ 2 * l.length := by
  induction l with
  | nil => simp [put]
  | cons b l ih => have := one_length z b; rw [show put z (b :: l) = one z b ++ put z l by simp [put], List.length_append, List.length_cons]; omega
/-! Undone: a state of two: is a mark open, and what has come out. -/
def gstep (x : Bool × List UInt8) (b : UInt8) : Bool × List UInt8 :=
  if x.1 = true then (false, x.2 ++ [b ^^^ 32]) else if b = 125 then (true, x.2) else (false, x.2 ++ [b])
def grun (l : List UInt8) : Bool × List UInt8 := l.foldl gstep (false, [])
theorem grun_snoc (l : List UInt8) (b : UInt8) : grun (l ++ [b]) = gstep (grun l) b := by simp [grun]
def get (l : List UInt8) : List UInt8 × Nat := if 126 ∈ l then ([], 201) else if (grun l).1 = true then ([], 200) else ((grun l).2, 0)
theorem gstep_length (x : Bool × List UInt8) (b : UInt8) : (gstep x b).2.length ≤ x.2.length + 1 := by
  unfold gstep; split
  · simp
  · split <;> simp
theorem grun_length (l : List UInt8) : (grun l).2.length ≤ l.length := by
  induction l using snoc_ind with
  | nil => simp [grun]
  | snoc l b ih => rw [grun_snoc]; have := gstep_length (grun l) b; simp; omega
theorem get_flag (l : List UInt8) (h : 126 ∈ l) : get l = ([], 201) := if_pos h
theorem get_end (l : List UInt8) (h : 126 ∉ l) (hm : (grun l).1 = true) : get l = ([], 200) := by rw [get, if_neg h, if_pos hm]
theorem get_good (l : List UInt8) (h : 126 ∉ l) (hm : (grun l).1 = false) : get l = ((grun l).2, 0) := by rw [get, if_neg h, if_neg (by simp [hm])]
/-- A run goes on where another ended, behind what that one gave. -/
theorem gfold_from (l : List UInt8) (mk : Bool) (o : List UInt8) : l.foldl gstep (mk, o) = ((l.foldl gstep (mk, [])).1, o ++ (l.foldl gstep (mk, [])).2) := by
  induction l generalizing mk o with
  | nil => simp
  | cons b l ih =>
    simp only [List.foldl_cons]
    have e : ∀ q : List UInt8, gstep (mk, q) b = ((gstep (mk, []) b).1, q ++ (gstep (mk, []) b).2) := by
      intro q; unfold gstep; cases mk <;> simp <;> split <;> simp
    rw [e o, ih, ih (gstep (mk, []) b).1 (gstep (mk, []) b).2]
    simp [List.append_assoc]
theorem grun_append (l r : List UInt8) (h : (grun l).1 = false) : grun (l ++ r) = ((grun r).1, (grun l).2 ++ (grun r).2) := by
  have e : grun l = (false, (grun l).2) := by rw [← h]
  unfold grun at *
  rw [List.foldl_append, e, gfold_from]
theorem xor32 (b : UInt8) : b ^^^ 32 ^^^ 32 = b := by rw [UInt8.xor_assoc, UInt8.xor_self, UInt8.xor_zero]
theorem grun_one (z : Int) (b : UInt8) : grun (one z b) = (false, [b]) := by
  unfold one
  split
  · show (false, [] ++ [b ^^^ 32 ^^^ 32]) = _
    rw [xor32]; rfl
  · rename_i h
    have hb : b ≠ 125 := by rintro rfl; exact h (by simp [mns])
    simp [grun, gstep, hb]
/-- What was put comes back. -/
theorem grun_put (z : Int) (l : List UInt8) : grun (put z l) = (false, l) := by
  induction l with
  | nil => rfl
  | cons b l ih =>
    rw [show put z (b :: l) = one z b ++ put z l by simp [put], grun_append _ _ (by rw [grun_one]), grun_one, ih]; rfl
theorem xor_low_at : ∀ n : Fin 32, (UInt8.ofNat n.val ^^^ 32) ≠ 126 ∧ ¬ (UInt8.ofNat n.val ^^^ 32).toNat < 32 := by decide
theorem xor_low (b : UInt8) (h : b.toNat < 32) : (b ^^^ 32) ≠ 126 ∧ ¬ (b ^^^ 32).toNat < 32 := by
  have := xor_low_at ⟨b.toNat, h⟩
  simpa only [UInt8.ofNat_toNat] using this
theorem one_stands (z : Int) (b c : UInt8) (h : c ∈ one z b) : c ≠ 126 ∧ (decide (c.toNat < 32) && mb z c.toNat) = false := by
  unfold one at h
  split at h
  · rename_i hm
    simp only [List.mem_cons, List.not_mem_nil, or_false] at h
    rcases h with rfl | rfl
    · exact ⟨by decide, by rfl⟩
    · unfold mns at hm
      simp only [Bool.or_eq_true, beq_iff_eq, Bool.and_eq_true, decide_eq_true_eq] at hm
      rcases hm with (rfl | rfl) | ⟨h1, _⟩
      · exact ⟨by decide, by rfl⟩
      · exact ⟨by decide, by rfl⟩
      · obtain ⟨h2, h3⟩ := xor_low b h1
        exact ⟨h2, by rw [decide_eq_false h3]; rfl⟩
  · rename_i hm
    simp only [List.mem_cons, List.not_mem_nil, or_false] at h
    subst h
    unfold mns at hm
    simp only [Bool.or_eq_true, beq_iff_eq, not_or] at hm
    exact ⟨hm.1.1, by simpa using hm.2⟩
theorem put_stands (z : Int) (l : List UInt8) (c : UInt8) (h : c ∈ put z l) : c ≠ 126 ∧ (decide (c.toNat < 32) && mb z c.toNat) = false := by
  unfold put at h
  obtain ⟨b, _, hb⟩ := List.mem_flatMap.1 h
  exact one_stands z b c hb
theorem put_noflag (z : Int) (l : List UInt8) : 126 ∉ put z l := fun h => (put_stands z l 126 h).1 rfl
theorem get_put (z : Int) (l : List UInt8) : get (put z l) = (l, 0) := by
  rw [get_good _ (put_noflag z l) (by rw [grun_put]), grun_put]
/-! Split: a state of three: the frames, has a flag been seen, what stands behind the last one. -/
def sstep (x : List (List UInt8) × Bool × List UInt8) (b : UInt8) : List (List UInt8) × Bool × List UInt8 :=
  if b = 126 then (if x.2.1 = true ∧ x.2.2 ≠ [] then x.1 ++ [x.2.2] else x.1, true, []) else (x.1, x.2.1, x.2.2 ++ [b])
def srun (l : List UInt8) : List (List UInt8) × Bool × List UInt8 := l.foldl sstep ([], false, [])
theorem srun_snoc (l : List UInt8) (b : UInt8) : srun (l ++ [b]) = sstep (srun l) b := by simp [srun]
def split (l : List UInt8) : List (List UInt8) × List UInt8 := ((srun l).1, (srun l).2.2)
/-- What stands behind the last flag is the text's own end; without a flag it is all of the text. -/
theorem srun_end (l : List UInt8) : (∃ p, l = p ++ (srun l).2.2) ∧ ((srun l).2.1 = false → (srun l).2.2 = l ∧ (srun l).1 = []) := by
  induction l using snoc_ind with
  | nil => exact ⟨⟨[], rfl⟩, fun _ => ⟨rfl, rfl⟩⟩
  | snoc l b ih =>
    obtain ⟨⟨p, hp⟩, h2⟩ := ih
    rw [srun_snoc]
    unfold sstep
    split
    · exact ⟨⟨l ++ [b], by simp⟩, fun h => by simp at h⟩
    · refine ⟨⟨p, ?_⟩, fun h => ?_⟩
      · rw [← List.append_assoc, ← hp]
      · obtain ⟨h3, h4⟩ := h2 h
        exact ⟨by show (srun l).2.2 ++ [b] = _; rw [h3], h4⟩
theorem srun_le (l : List UInt8) : (srun l).2.2.length ≤ l.length := by
  obtain ⟨⟨p, hp⟩, _⟩ := srun_end l
  have := congrArg List.length hp
  simp at this; omega
/-- Frames and the bytes in them are no more than the text. -/
theorem srun_count (l : List UInt8) : (srun l).1.length ≤ l.length := by
  induction l using snoc_ind with
  | nil => simp [srun]
  | snoc l b ih =>
    rw [srun_snoc]
    unfold sstep
    split
    · simp only []
      split <;> simp <;> omega
    · simp; omega
theorem srun_mem (l : List UInt8) : ∀ f ∈ (srun l).1, f.length ≤ l.length := by
  induction l using snoc_ind with
  | nil => simp [srun]
  | snoc l b ih =>
    have hl := srun_le l
    rw [srun_snoc]
    unfold sstep
    intro f hf
    split at hf
    · simp only [] at hf
      split at hf
      · rcases List.mem_append.1 hf with hf | hf
        · have := ih f hf; simp; omega
        · rw [List.mem_singleton.1 hf]; simp; omega
      · have := ih f hf; simp; omega
    · have := ih f hf; simp; omega
theorem srun_noflag (l r : List UInt8) (h : 126 ∉ r) : srun (l ++ r) = ((srun l).1, (srun l).2.1, (srun l).2.2 ++ r) := by
  induction r using snoc_ind with
  | nil => simp
  | snoc r b ih =>
    rw [← List.append_assoc, srun_snoc, ih (fun hh => h (by simp [hh]))]
    unfold sstep
    rw [if_neg (by rintro rfl; exact h (by simp))]
    simp
/-- One text more between flags. -/
theorem srun_flag (l : List UInt8) : srun (l ++ [126]) = (if (srun l).2.1 = true ∧ (srun l).2.2 ≠ [] then (srun l).1 ++ [(srun l).2.2] else (srun l).1, true, []) := by
  rw [srun_snoc]; exact if_pos rfl
end Go.Proofs.Ytnkkompmdngkgaa.Stf
