/-
  Contract of the document's own Unmp at any text.
-/
import Derived.Test.YtlolnbmdjnnkjaaD8L
import Derived.Test.YtlolnbmdjnnkjaaHigh
namespace Go.Proofs.Ytlolnbmdjnnkjaa.D
open Go.RowKit
theorem bit48 (x : UInt8) : ∃ m : Int, bits BinOp.and .u8 (x.toNat : Int) 48 = m ∧ (m != 0) = decide (16 ≤ x.toNat % 64) := by
  refine ⟨_, rfl, ?_⟩
  have hx := x.toNat_lt
  have e := u8_and_nat x.toNat 48 (by omega) (by omega)
  have e2 : x.toNat &&& 48 = x.toNat % 64 / 16 * 16 := nat_midmask 6 4 _ (by decide)
  rw [e2] at e
  rw [show (48 : Int) = ((48 : Nat) : Int) from rfl, e, Bool.eq_iff_iff, bne_iff_ne]
  simp
  omega
theorem bit63 (x : UInt8) : ∃ m : Int, bits BinOp.and .u8 (x.toNat : Int) 63 = m ∧ (m != 0) = decide (1 ≤ x.toNat % 64) := by
  refine ⟨_, rfl, ?_⟩
  have hx := x.toNat_lt
  have e := u8_and_nat x.toNat 63 (by omega) (by omega)
  rw [nat_mask6] at e
  rw [show (63 : Int) = ((63 : Nat) : Int) from rfl, e, Bool.eq_iff_iff, bne_iff_ne]
  simp
  omega
theorem bit128 (x : UInt8) : ∃ m : Int, bits BinOp.and .u8 (x.toNat : Int) 128 = m ∧ (m == 128) = decide (128 ≤ x.toNat) ∧ (m != 0) = decide (128 ≤ x.toNat) := by
  refine ⟨_, rfl, ?_⟩
  have hx := x.toNat_lt
  have e := u8_and_nat x.toNat 128 (by omega) (by omega)
  rw [show (128 : Nat) = 2 ^ 7 from rfl, nat_bit 7] at e
  rw [show (128 : Int) = ((2 ^ 7 : Nat) : Int) from rfl, e]
  constructor <;> rw [Bool.eq_iff_iff]
  · rw [beq_iff_eq]; simp; omega
  · rw [bne_iff_ne]; simp; omega
theorem bit64 (x : UInt8) : ∃ m : Int, bits BinOp.and .u8 (x.toNat : Int) 64 = m ∧ (m == 64) = decide (64 ≤ x.toNat % 128) ∧ (m != 0) = decide (64 ≤ x.toNat % 128) := by
  refine ⟨_, rfl, ?_⟩
  have hx := x.toNat_lt
  have e := u8_and_nat x.toNat 64 (by omega) (by omega)
  rw [show (64 : Nat) = 2 ^ 6 from rfl, nat_bit 6] at e
  rw [show (64 : Int) = ((2 ^ 6 : Nat) : Int) from rfl, e]
  constructor <;> rw [Bool.eq_iff_iff]
  · rw [beq_iff_eq]; simp; omega
  · rw [bne_iff_ne]; simp; omega
theorem bit15 (x : UInt8) : bits BinOp.and .u8 (x.toNat : Int) 15 = ((x.toNat % 16 : Nat) : Int) := by
  have hx := x.toNat_lt
  have e := u8_and_nat x.toNat 15 (by omega) (by omega)
  rwa [nat_mask4] at e
theorem bytes2 (l : List UInt8) (h : 2 ≤ l.length) : ∃ x y r, l = x :: y :: r := by
  rcases l with _ | ⟨x, _ | ⟨y, r⟩⟩
  · simp at h
  · simp at h
  · exact ⟨x, y, r, rfl⟩
theorem bytes4 (l : List UInt8) (h : 4 ≤ l.length) : ∃ x y z u r, l = x :: y :: z :: u :: r := by
  obtain ⟨x, y, r, rfl⟩ := bytes2 l (by omega)
  obtain ⟨z, u, r, rfl⟩ := bytes2 r (by simp at h; omega)
  exact ⟨x, y, z, u, r, rfl⟩
theorem val2 (x y : UInt8) (r : List UInt8) : Mph.val ((x :: y :: r).take 2) = x.toNat * 256 + y.toNat := by simp [Mph.val]
theorem val4 (x y z u : UInt8) (r : List UInt8) : Mph.val ((x :: y :: z :: u :: r).take 4) = ((x.toNat * 256 + y.toNat) * 256 + z.toNat) * 256 + u.toNat := by simp [Mph.val]
theorem unmp_s (l : List UInt8) (w : World) (hm : l.length ≤ 9223372036854775807) : Calls Try.prog 10 #[.string ⟨l.toArray⟩, .bool true] w (FragPost (Mph.get true l) w) := by
  by_cases h : l.length < 2
  · have g : Mph.get true l = (Mph.zero, 800) := if_pos (.inl h)
    rw [g]
    exact un_few_s _ w (by rw [sz]; exact h)
  · obtain ⟨x, y, r, rfl⟩ := bytes2 l (by omega)
    have hx := x.toNat_lt
    have hy := y.toNat_lt
    obtain ⟨m, a1, f1⟩ := bit48 x
    obtain ⟨y1, a2, f2, _⟩ := bit128 x
    obtain ⟨y2, a3, f3, _⟩ := bit64 x
    have ways := Mph.get_ways true (x :: y :: r)
    simp only [show Mph.size true = 2 from rfl] at ways
    rw [val2] at ways
    have hsz : ByteArray.size ⟨(x :: y :: r).toArray⟩ = r.length + 2 := by rw [sz]; rfl
    have hl : (x :: y :: r).length = r.length + 2 := rfl
    rw [hl] at ways h hm
    have hf : Mph.formed true (x.toNat * 256 + y.toNat) ↔ ¬ 16 ≤ x.toNat % 64 := by
      unfold Mph.formed
      simp only [Mph.unit, Mph.ring, if_true]
      omega
    rcases ways with ⟨h1, _⟩ | ⟨_, h2, e⟩ | ⟨_, h2, h3, e⟩ | ⟨_, h2, h3, e⟩
    · exact absurd h1 h
    · rw [e]
      exact un_bad_s _ x m w (by omega) rfl a1 (by rw [f1]; exact decide_eq_true (Decidable.not_not.1 fun g => h2 (hf.2 g)))
    · rw [e]
      exact un_over_s _ x m w (by omega) rfl a1 (by rw [f1]; exact decide_eq_false (hf.1 h2)) (by omega) (by omega)
    · rw [e]
      have a5 := i64_or_nat (x.toNat % 16 * 256) y.toNat (by omega) (by omega)
      rw [nat_join 8 _ y.toNat (by omega) (by omega), Int.natCast_mul] at a5
      have key := un_good_s _ _ x y m _ _ y1 y2 _ _ w (by omega) rfl rfl a1 (by rw [f1]; exact decide_eq_false (hf.1 h2)) (by omega) a2 f2 a3 f3 (tail_list (x :: y :: r) 2) (bit15 x) (by omega) a5
      have e1 : Mph.fields true (x.toNat * 256 + y.toNat) r = (decide (128 ≤ x.toNat), decide (64 ≤ x.toNat % 128), ((x.toNat % 16 * 256 + y.toNat : Nat) : Int), r) := by
        unfold Mph.fields
        simp only [Mph.unit, Mph.ring, if_true, Prod.mk.injEq, and_true, decide_eq_decide]
        omega
      have e2 : (x :: y :: r).drop 2 = r := rfl
      rw [e2] at key ⊢
      rw [e1]
      exact key
theorem unmp_l (l : List UInt8) (w : World) (hm : l.length ≤ 9223372036854775807) : Calls Try.prog 10 #[.string ⟨l.toArray⟩, .bool false] w (FragPost (Mph.get false l) w) := by
  by_cases h : l.length < 4
  · have g : Mph.get false l = (Mph.zero, 800) := if_pos (.inl h)
    rw [g]
    exact un_few_l _ w (by rw [sz]; exact h)
  · obtain ⟨x, y, z, u, r, rfl⟩ := bytes4 l (by omega)
    have hx := x.toNat_lt
    have hy := y.toNat_lt
    have hz := z.toNat_lt
    have hu := u.toNat_lt
    obtain ⟨m, a1, f1⟩ := bit63 x
    obtain ⟨y1, a2, f2, _⟩ := bit128 x
    obtain ⟨y2, a3, f3, _⟩ := bit64 x
    have ways := Mph.get_ways false (x :: y :: z :: u :: r)
    simp only [show Mph.size false = 4 from rfl] at ways
    rw [val4] at ways
    have hsz : ByteArray.size ⟨(x :: y :: z :: u :: r).toArray⟩ = r.length + 4 := by rw [sz]; rfl
    have hl : (x :: y :: z :: u :: r).length = r.length + 4 := rfl
    rw [hl] at ways h hm
    have hf : Mph.formed false (((x.toNat * 256 + y.toNat) * 256 + z.toNat) * 256 + u.toNat) ↔ ¬ 1 ≤ x.toNat % 64 := by
      unfold Mph.formed
      simp only [Mph.unit, Mph.ring, Bool.false_eq_true, if_false]
      omega
    rcases ways with ⟨h1, _⟩ | ⟨_, h2, e⟩ | ⟨_, h2, h3, e⟩ | ⟨_, h2, h3, e⟩
    · exact absurd h1 h
    · rw [e]
      exact un_bad_l _ x m w (by omega) rfl a1 (by rw [f1]; exact decide_eq_true (Decidable.not_not.1 fun g => h2 (hf.2 g)))
    · rw [e]
      exact un_over_l _ x m w (by omega) rfl a1 (by rw [f1]; exact decide_eq_false (hf.1 h2)) (by omega) (by omega)
    · rw [e]
      have a4 := i64_or_nat (y.toNat * 65536) (z.toNat * 256) (by omega) (by omega)
      rw [nat_join 16 _ (z.toNat * 256) (by omega) (by omega), Int.natCast_mul, Int.natCast_mul] at a4
      have a5 := i64_or_nat (y.toNat * 65536 + z.toNat * 256) u.toNat (by omega) (by omega)
      rw [nat_join 8 _ u.toNat (by omega) (by omega)] at a5
      have key := un_good_l _ _ x y z u m _ _ y1 y2 _ _ w (by omega) rfl rfl rfl rfl a1 (by rw [f1]; exact decide_eq_false (hf.1 h2)) (by omega) a2 f2 a3 f3 (tail_list (x :: y :: z :: u :: r) 4) a4 a5
      have e1 : Mph.fields false (((x.toNat * 256 + y.toNat) * 256 + z.toNat) * 256 + u.toNat) r = (decide (128 ≤ x.toNat), decide (64 ≤ x.toNat % 128), ((y.toNat * 65536 + z.toNat * 256 + u.toNat : Nat) : Int), r) := by
        unfold Mph.fields
        simp only [Mph.unit, Mph.ring, Bool.false_eq_true, if_false, Prod.mk.injEq, and_true, decide_eq_decide]
        omega
      have e2 : (x :: y :: z :: u :: r).drop 4 = r := rfl
      rw [e2] at key ⊢
      rw [e1]
      exact key
theorem runmp_any (short : Bool) (l : List UInt8) (w : World) (hm : l.length ≤ 9223372036854775807) : Calls Try.prog 10 #[.string ⟨l.toArray⟩, .bool short] w (FragPost (Mph.get short l) w) := by
  cases short
  · exact unmp_l l w hm
  · exact unmp_s l w hm
end Go.Proofs.Ytlolnbmdjnnkjaa.D
