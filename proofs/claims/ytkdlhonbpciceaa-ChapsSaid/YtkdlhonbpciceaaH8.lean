/-
  Contract of the document's own Unchap, whole: the ways together.
-/
import Derived.Test.YtkdlhonbpciceaaH7
namespace Go.Proofs.Ytkdlhonbpciceaa.H
open Go.RowKit
theorem kind_yes (x : UInt8) (h1 : 1 ≤ x.toNat) (h2 : x.toNat ≤ 4) : Chp.kind (x.toNat : Int) = true := by unfold Chp.kind; simp; omega
theorem kind_no (x : UInt8) (h : x.toNat < 1 ∨ 4 < x.toNat) : Chp.kind (x.toNat : Int) = false := by
  unfold Chp.kind
  rw [Bool.and_eq_false_iff, decide_eq_false_iff_not, decide_eq_false_iff_not]
  omega
theorem byte_yes (x : UInt8) : Chp.byte (x.toNat : Int) = true := by
  have := x.toNat_lt
  unfold Chp.byte; simp; omega
theorem code_read (a b : UInt8) (v n : List UInt8) (h1 : 1 ≤ a.toNat) (h2 : a.toNat ≤ 4) (h3 : Chp.holds (a.toNat : Int) v = true) : Chp.code ((a.toNat : Int), (b.toNat : Int), v, n) = if n.length ≤ 253 then 0 else 601 := if_pos ⟨kind_yes a h1 h2, byte_yes b, h3⟩
theorem code_none (a b : UInt8) (v n : List UInt8) (h3 : Chp.holds (a.toNat : Int) v = false ∨ Chp.kind (a.toNat : Int) = false) : Chp.code ((a.toNat : Int), (b.toNat : Int), v, n) = 600 := if_neg (by rintro ⟨g1, _, g2⟩; rcases h3 with h3 | h3 <;> simp_all)
theorem seen_bad (m : Chp.Msg) (q : Int) (h : Chp.code m = q) (hq : q ≠ 0) : Chp.seen m = (Chp.zero, q) := by unfold Chp.seen; rw [if_neg (by omega), h]
theorem take_drop4 (a b x y : UInt8) (r : List UInt8) (k : Nat) (h : 4 ≤ k) : ((a :: b :: x :: y :: r).take k).drop 4 = r.take (k - 4) := by
  obtain ⟨j, rfl⟩ : ∃ j, k = j + 4 := ⟨_, (Nat.sub_add_cancel h).symm⟩
  simp
/-- The contract of the document's own Unchap. -/
theorem unchap_any (l : List UInt8) (w : World) (hm : l.length ≤ 9223372036854775807) : Calls Try.prog 11 #[.string ⟨l.toArray⟩] w (MsgPost (Chp.get l) w) := by
  have hs := sz l
  by_cases h : l.length < 4
  · rw [Chp.get_short l h]
    exact un_short ⟨l.toArray⟩ w (by rw [hs]; exact h)
  · obtain ⟨a, b, x, y, r, rfl⟩ := Chp.four l (by omega)
    have g4 : 4 ≤ (ByteArray.mk (a :: b :: x :: y :: r).toArray).size := by rw [hs]; omega
    have gm : (ByteArray.mk (a :: b :: x :: y :: r).toArray).size ≤ 9223372036854775807 := by rw [hs]; exact hm
    have hk : ((ByteArray.mk (a :: b :: x :: y :: r).toArray)[2]'(by omega)).toNat * 256 + ((ByteArray.mk (a :: b :: x :: y :: r).toArray)[3]'(by omega)).toNat = x.toNat * 256 + y.toNat := rfl
    have hl : (a :: b :: x :: y :: r).length = r.length + 4 := rfl
    have hG := Chp.get_four a b x y r
    by_cases hc : a.toNat < 1 ∨ 4 < a.toNat
    · have e : Chp.get (a :: b :: x :: y :: r) = (Chp.zero, 600) := by
        rw [hG]
        split
        · rfl
        · have hv : Chp.val (a.toNat : Int) = false := by
            unfold Chp.val
            rw [Bool.or_eq_false_iff, decide_eq_false_iff_not, decide_eq_false_iff_not]
            omega
          unfold Chp.inner
          rw [if_neg (by rw [hv]; simp)]
          exact seen_bad _ 600 (code_none a b _ _ (.inr (kind_no a hc))) (by decide)
      rw [e]
      exact un_code ⟨(a :: b :: x :: y :: r).toArray⟩ a w g4 rfl hc
    · have c1 : 1 ≤ a.toNat := by omega
      have c2 : a.toNat ≤ 4 := by omega
      obtain ⟨k, ek⟩ : ∃ k, k = x.toNat * 256 + y.toNat := ⟨_, rfl⟩
      rw [← ek] at hk hG
      cases hv : Chp.val (a.toNat : Int)
      · have hh : Chp.holds (a.toNat : Int) [] = true := by unfold Chp.holds; rw [hv]; rfl
        have hv2 : ¬ ((a.toNat : Int) = 1) ∧ ¬ ((a.toNat : Int) = 2) := by
          unfold Chp.val at hv
          rwa [Bool.or_eq_false_iff, decide_eq_false_iff_not, decide_eq_false_iff_not] at hv
        refine un_none ⟨(a :: b :: x :: y :: r).toArray⟩ a b k (((a :: b :: x :: y :: r).take k).drop 4) _ w g4 gm hk rfl rfl c1 c2 (by simpa using hv2.1) (by simpa using hv2.2) (cut_list _ _ _) (Lib.hid fun hq => ?_) (Lib.hid fun q1 q2 q3 => ?_) (Lib.hid fun q1 q2 q3 => ?_)
        · rw [hs, hl] at hq
          rw [hG, if_pos hq]
        · rw [hs, hl] at q2
          rw [hG, if_neg (by omega)]
          unfold Chp.inner
          rw [if_neg (by rw [hv]; simp)]
          refine seen_bad _ 601 ?_ (by decide)
          rw [code_read a b _ _ c1 c2 hh, if_neg (by rw [List.length_take]; omega)]
        · rw [hs, hl] at q2
          rw [hG, if_neg (by omega), take_drop4 _ _ _ _ _ _ q1]
          unfold Chp.inner
          rw [if_neg (by rw [hv]; simp)]
          refine Chp.seen_good _ ?_
          rw [code_read a b _ _ c1 c2 hh, if_pos (by rw [List.length_take]; omega)]
      · have hv2 : ((a.toNat : Int) == 1) = true ∨ ((a.toNat : Int) == 1) = false ∧ ((a.toNat : Int) == 2) = true := by
          unfold Chp.val at hv
          rw [Bool.or_eq_true, decide_eq_true_eq, decide_eq_true_eq] at hv
          rcases hv with e | e
          · exact .inl (by rw [e]; rfl)
          · exact .inr ⟨by rw [e]; rfl, by rw [e]; rfl⟩
        refine un_value ⟨(a :: b :: x :: y :: r).toArray⟩ a b k _ w g4 gm hk rfl rfl c1 c2 (Lib.hid hv2) (Lib.hid fun hq => ?_) (Lib.hid fun q1 q2 => ?_)
        · rw [hs, hl] at hq
          rw [hG]
          split
          · rfl
          · have e4 : k - 4 = 0 := by omega
            rw [e4]
            exact Chp.inner_short _ _ _ hv rfl
        · rw [hs, hl] at q2
          cases r with
          | nil => simp at q2; omega
          | cons z r =>
            simp only [List.length_cons] at q2
            have et : (z :: r).take (k - 4) = z :: r.take (k - 5) := by
              obtain ⟨j, rfl⟩ : ∃ j, k = j + 5 := ⟨_, (Nat.sub_add_cancel q1).symm⟩
              simp
            have hG2 : Chp.get (a :: b :: x :: y :: z :: r) = if (r.take (k - 5)).length < z.toNat then (Chp.zero, 600) else Chp.seen ((a.toNat : Int), (b.toNat : Int), (r.take (k - 5)).take z.toNat, (r.take (k - 5)).drop z.toNat) := by
              rw [hG, if_neg (by rw [List.length_cons]; omega), et]
              unfold Chp.inner
              rw [if_pos hv]
            have hlen : (r.take (k - 5)).length = k - 5 := by rw [List.length_take]; omega
            rw [hlen] at hG2
            refine ⟨z, (r.take (k - 5)).take z.toNat, (r.take (k - 5)).drop z.toNat, rfl, fun hq => ?_, fun z1 z2 => ⟨?_, ?_, fun z3 => ?_, fun z3 => ?_⟩⟩
            · rw [hG2]
              split
              · rfl
              · rcases hq with hq | hq
                · have hz : z.toNat = 0 := by simpa using hq
                  refine seen_bad _ 600 (code_none a b _ _ (.inl ?_)) (by decide)
                  rw [hz]
                  unfold Chp.holds
                  rw [if_pos hv]
                  rfl
                · omega
            · rw [cut_list]
              congr 2
              have e5 : (a :: b :: x :: y :: z :: r).take (5 + z.toNat) = a :: b :: x :: y :: z :: r.take z.toNat := by rw [Nat.add_comm]; simp
              rw [e5, List.take_take, Nat.min_eq_left (by omega)]
              rfl
            · rw [cut_list]
              congr 2
              have e5 : (a :: b :: x :: y :: z :: r).take k = a :: b :: x :: y :: z :: r.take (k - 5) := by
                obtain ⟨j, rfl⟩ : ∃ j, k = j + 5 := ⟨_, (Nat.sub_add_cancel q1).symm⟩
                simp
              rw [e5, Nat.add_comm]
              simp
            · rw [hG2, if_neg (by omega)]
              refine seen_bad _ 601 ?_ (by decide)
              have z4 : z.toNat ≠ 0 := by simpa using z1
              have hlz := z.toNat_lt
              rw [code_read a b _ _ c1 c2 (by unfold Chp.holds; rw [if_pos hv, List.length_take, hlen, Nat.min_eq_left (by omega)]; simp; omega), if_neg (by rw [List.length_drop, hlen]; omega)]
            · rw [hG2, if_neg (by omega)]
              refine Chp.seen_good _ ?_
              have z4 : z.toNat ≠ 0 := by simpa using z1
              have hlz := z.toNat_lt
              rw [code_read a b _ _ c1 c2 (by unfold Chp.holds; rw [if_pos hv, List.length_take, hlen, Nat.min_eq_left (by omega)]; simp; omega), if_pos (by rw [List.length_drop, hlen]; omega)]
end Go.Proofs.Ytkdlhonbpciceaa.H
