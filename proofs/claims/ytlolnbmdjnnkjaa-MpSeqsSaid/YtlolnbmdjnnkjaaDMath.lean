/-
  Plain lists: a fragment as bytes, in both forms, and back.
-/
import Derived.Test.YtlolnbmdjnnkjaaOwn
namespace Go.Proofs.Ytlolnbmdjnnkjaa.Mph
abbrev Frag := Bool × Bool × Int × List UInt8
def size (short : Bool) : Nat := if short = true then 2 else 4
def unit (short : Bool) : Nat := if short = true then 256 else 16777216
def ring (short : Bool) : Nat := if short = true then 4096 else 16777216
def mark (b e : Bool) : Nat := (if b = true then 128 else 0) + (if e = true then 64 else 0)
def good (short : Bool) (q : Int) (d : List UInt8) : Bool := decide (0 ≤ q) && (decide (q < (ring short : Int)) && decide (d.length ≤ 2048))
/-- So many bytes of a number, the high one first. -/
def be : Nat → Nat → List UInt8
  | 0, _ => []
  | k + 1, n => be k (n / 256) ++ [UInt8.ofNat n]
/-- Bytes as a number, the high one first. -/
def val (l : List UInt8) : Nat := l.foldl (fun a b => a * 256 + b.toNat) 0
def numb (short b e : Bool) (n : Nat) : Nat := mark b e * unit short + n
def head (short b e : Bool) (n : Nat) : List UInt8 := be (size short) (numb short b e n)
def put (short : Bool) (f : Frag) : List UInt8 := if good short f.2.2.1 f.2.2.2 = true then head short f.1 f.2.1 f.2.2.1.toNat ++ f.2.2.2 else []
def code (short : Bool) (f : Frag) : Int := if good short f.2.2.1 f.2.2.2 = true then 0 else 801
def zero : Frag := (false, false, 0, [])
def formed (short : Bool) (N : Nat) : Prop := N % (64 * unit short) < ring short
instance (short : Bool) (N : Nat) : Decidable (formed short N) := Nat.decLt _ _
def fields (short : Bool) (N : Nat) (d : List UInt8) : Frag := (decide (128 * unit short ≤ N), decide (64 * unit short ≤ N % (128 * unit short)), ((N % ring short : Nat) : Int), d)
def get (short : Bool) (l : List UInt8) : Frag × Int :=
  if l.length < size short ∨ ¬ formed short (val (l.take (size short))) then (zero, 800)
  else if 2048 < l.length - size short then (zero, 801)
  else (fields short (val (l.take (size short))) (l.drop (size short)), 0)
theorem be_length (k n : Nat) : (be k n).length = k := by
  induction k generalizing n with
  | zero => rfl
  | succ k ih => rw [be, List.length_append, ih, List.length_singleton]
theorem val_snoc (l : List UInt8) (b : UInt8) : val (l ++ [b]) = val l * 256 + b.toNat := by simp [val]
theorem val_be (k n : Nat) (h : n < 256 ^ k) : val (be k n) = n := by
  induction k generalizing n with
  | zero => have : n = 0 := by simpa using h
            subst this; rfl
  | succ k ih =>
    rw [be, val_snoc, ih (n / 256) (by rw [Nat.pow_succ] at h; omega)]
    simp
    omega
theorem val_lt (l : List UInt8) : val l < 256 ^ l.length := by
  rcases List.eq_nil_or_concat l with h | ⟨L, b, h⟩
  · subst h; decide
  · have ih := val_lt L
    have hb := b.toNat_lt
    rw [h, List.concat_eq_append, val_snoc, List.length_append, List.length_singleton, Nat.pow_succ]
    omega
termination_by l.length
decreasing_by subst h; simp
theorem be_val (l : List UInt8) : be l.length (val l) = l := by
  rcases List.eq_nil_or_concat l with h | ⟨L, b, h⟩
  · subst h; rfl
  · have ih := be_val L
    have hb := b.toNat_lt
    rw [h, List.concat_eq_append, val_snoc, List.length_append, List.length_singleton, be, show (val L * 256 + b.toNat) / 256 = val L by omega, ih]
    congr 2
    apply UInt8.toNat_inj.1
    simp
termination_by l.length
decreasing_by subst h; simp
theorem size_le (short : Bool) : size short ≤ 4 ∧ 2 ≤ size short := by cases short <;> decide
theorem good_iff (short : Bool) (q : Int) (d : List UInt8) : good short q d = true ↔ 0 ≤ q ∧ q < (ring short : Int) ∧ d.length ≤ 2048 := by simp [good]
theorem put_good (short b e : Bool) (q : Int) (d : List UInt8) (h : good short q d = true) : put short (b, e, q, d) = head short b e q.toNat ++ d ∧ code short (b, e, q, d) = 0 := ⟨if_pos h, if_pos h⟩
theorem put_bad (short b e : Bool) (q : Int) (d : List UInt8) (h : good short q d = false) : put short (b, e, q, d) = [] ∧ code short (b, e, q, d) = 801 := ⟨if_neg (by simp [h]), if_neg (by simp [h])⟩
theorem head_length (short b e : Bool) (n : Nat) : (head short b e n).length = size short := be_length _ _
theorem numb_lt (short b e : Bool) (n : Nat) (h : n < ring short) : numb short b e n < 256 ^ size short := by
  cases short <;> cases b <;> cases e <;> simp [numb, mark, unit, ring, size] at * <;> omega
theorem numb_formed (short b e : Bool) (n : Nat) (h : n < ring short) : formed short (numb short b e n) := by
  unfold formed
  cases short <;> cases b <;> cases e <;> simp [numb, mark, unit, ring] at * <;> omega
theorem numb_fields (short b e : Bool) (n : Nat) (d : List UInt8) (h : n < ring short) : fields short (numb short b e n) d = (b, e, (n : Int), d) := by
  unfold fields
  cases short <;> cases b <;> cases e <;> simp [numb, mark, unit, ring] at * <;> omega
theorem get_ways (short : Bool) (l : List UInt8) : (l.length < size short ∧ get short l = (zero, 800)) ∨ (size short ≤ l.length ∧ ¬ formed short (val (l.take (size short))) ∧ get short l = (zero, 800)) ∨
    (size short ≤ l.length ∧ formed short (val (l.take (size short))) ∧ 2048 + size short < l.length ∧ get short l = (zero, 801)) ∨
    (size short ≤ l.length ∧ formed short (val (l.take (size short))) ∧ l.length ≤ 2048 + size short ∧ get short l = (fields short (val (l.take (size short))) (l.drop (size short)), 0)) := by
  unfold get
  by_cases h1 : l.length < size short
  · exact .inl ⟨h1, if_pos (.inl h1)⟩
  · by_cases h2 : formed short (val (l.take (size short)))
    · rw [if_neg (by intro h; rcases h with h | h; exact h1 h; exact h h2)]
      by_cases h3 : 2048 < l.length - size short
      · exact .inr (.inr (.inl ⟨by omega, h2, by omega, if_pos h3⟩))
      · exact .inr (.inr (.inr ⟨by omega, h2, by omega, if_neg h3⟩))
    · exact .inr (.inl ⟨by omega, h2, if_pos (.inr h2)⟩)
/-- What was put comes back, whatever data stands behind it. -/
theorem get_head (short b e : Bool) (n : Nat) (d : List UInt8) (h : n < ring short) (hd : d.length ≤ 2048) : get short (head short b e n ++ d) = ((b, e, (n : Int), d), 0) := by
  have hl := head_length short b e n
  have ht : (head short b e n ++ d).take (size short) = head short b e n := by rw [← hl]; exact List.take_left
  have hdr : (head short b e n ++ d).drop (size short) = d := by rw [← hl]; exact List.drop_left
  have hv : val (head short b e n) = numb short b e n := val_be _ _ (numb_lt short b e n h)
  unfold get
  rw [ht, hdr, hv, List.length_append, hl, if_neg (by
    intro g
    rcases g with g | g
    · omega
    · exact g (numb_formed short b e n h)), if_neg (by omega), numb_fields short b e n d h]
theorem get_put (short b e : Bool) (q : Int) (d : List UInt8) (h : good short q d = true) : get short (put short (b, e, q, d)) = ((b, e, q, d), 0) := by
  obtain ⟨h1, h2, h3⟩ := (good_iff short q d).1 h
  rw [(put_good short b e q d h).1, get_head short b e _ d (by omega) h3, Int.toNat_of_nonneg h1]
/-- What is taken is written as it stood. -/
theorem numb_back (short : Bool) (N : Nat) (h : N < 256 ^ size short) (hf : formed short N) : numb short (decide (128 * unit short ≤ N)) (decide (64 * unit short ≤ N % (128 * unit short))) (N % ring short) = N := by
  unfold formed at hf
  unfold numb mark
  simp only [decide_eq_true_eq]
  cases short
  · simp only [unit, ring, size, Bool.false_eq_true, if_false] at *
    split <;> split <;> omega
  · simp only [unit, ring, size, if_true] at *
    split <;> split <;> omega
theorem put_get (short : Bool) (l : List UInt8) (h : size short ≤ l.length) (hf : formed short (val (l.take (size short)))) (hl : l.length ≤ 2048 + size short) :
    put short (fields short (val (l.take (size short))) (l.drop (size short))) = l ∧ code short (fields short (val (l.take (size short))) (l.drop (size short))) = 0 := by
  have hlen : (l.take (size short)).length = size short := by rw [List.length_take]; omega
  have hv := val_lt (l.take (size short))
  have hb := be_val (l.take (size short))
  rw [hlen] at hv hb
  generalize val (l.take (size short)) = N at *
  have hpos : 0 < ring short := by cases short <;> decide
  have hg : good short ((N % ring short : Nat) : Int) (l.drop (size short)) = true := (good_iff _ _ _).2 ⟨by omega, by have := Nat.mod_lt N hpos; omega, by rw [List.length_drop]; omega⟩
  obtain ⟨p1, p2⟩ := put_good short (decide (128 * unit short ≤ N)) (decide (64 * unit short ≤ N % (128 * unit short))) _ _ hg
  unfold fields
  refine ⟨p1.trans ?_, p2⟩
  unfold head
  rw [Int.toNat_natCast, numb_back short N hv hf, hb, List.take_append_drop]
end Go.Proofs.Ytlolnbmdjnnkjaa.Mph
