/-
  The walk of the law of sizes.
-/
import Derived.Test.YtpbmchgjjfaanaaV9
namespace Go.Proofs.Ytpbmchgjjfaanaa.Stf
/-- How many of a text may not stand. -/
def cnt (z : Int) (l : List UInt8) : Nat := (l.filter (mns z)).length
theorem cnt_snoc (z : Int) (l : List UInt8) (b : UInt8) : cnt z (l ++ [b]) = cnt z l + if mns z b = true then 1 else 0 := by
  unfold cnt
  rw [List.filter_append, List.length_append]
  congr 1
  cases h : mns z b <;> simp [h]
theorem cnt_le (z : Int) (l : List UInt8) : cnt z l ≤ l.length := List.length_filter_le _ _
theorem put_cnt (z : Int) (l : List UInt8) : (put z l).length = l.length + cnt z l := by
  induction l using snoc_ind with
  | nil => rfl
  | snoc l b ih =>
    rw [put_snoc, List.length_append, ih, cnt_snoc, List.length_append]
    unfold one
    split <;> simp <;> omega
/-- Bits above the lowest 32 do not count. -/
theorem mns_high_bit (b : UInt8) : mns 0 b = mns 1099511627776 b := by
  unfold mns
  congr 1
  by_cases h : b.toNat < 32
  · have e := bit_wrap 1099511627776 b.toNat 32 h
    have e0 : (1099511627776 : Int) % 2 ^ 32 = 0 := by decide
    rw [e0] at e
    unfold mb
    rw [← e]
  · rw [decide_eq_false h]; rfl
theorem put_high_bit (l : List UInt8) : put 0 l = put 1099511627776 l := by
  unfold put one
  simp only [mns_high_bit]
end Go.Proofs.Ytpbmchgjjfaanaa.Stf
namespace Go.Proofs.Ytpbmchgjjfaanaa
open Go.RowKit
set_option maxHeartbeats 800000 in
theorem walk_sizes (s : ByteArray) (z : Int) (w : World) (hs : s.size ≤ 1048576) (_hz : (Lit.int .i64 z).wf = true) :
    Calls Try.prog 6 #[.string s, .int .i64 z] w fun e w' => e = .returned (.bool true) ∧ Below w.heap.size w w' := by
  have P1 := Lib.hid fun w => put_any s z w (by omega)
  have P2 := Lib.hid fun w => put_any s 0 w (by omega)
  have p3 := fun w => put_any s 1099511627776 w (by omega)
  rw [← Stf.put_high_bit] at p3
  have P3 := Lib.hid p3
  clear p3
  have HZ := Lib.hid (Stf.put_cnt z s.data.toList)
  go_enter Try.func6, Try.ntmps6
  go_wp2_with fail
  refine (awake_any _).mono ?_
  rintro e w0 ⟨rfl, hb0⟩
  have B0 := Lib.hid hb0
  clear hb0
  go_wp2_with fail
  go_loop [5, 6] (fun c i => ∃ k : Nat, k ≤ s.size ∧ i = .int .i64 k ∧ c = .int .i64 (Stf.cnt z (s.data.toList.take k))) (fun _ i => s.size - (intOf i).toNat)
  case atStart => exact ⟨0, by omega, rfl, rfl⟩
  case round =>
    obtain ⟨k, hk, rfl, rfl⟩ := hrel
    have hcl := Stf.cnt_le z (s.data.toList.take k)
    have hl : (s.data.toList.take k).length ≤ k := List.length_take_le _ _
    by_cases hlt : k < s.size
    · go_upto_region 7 with (fail)
      go_cut [40] (fun t wx => t = .bool (Stf.mns z s[k]) ∧ wx = w0)
      case first =>
        go_wp2_with fail
        all_goals go_meet
        case rel => exact ⟨ret0 (Stf.mns_mark z _ ‹_›).symm, rfl⟩
        case rel => exact ⟨ret0 (Stf.mns_flag z _ ‹_›).symm, rfl⟩
        case rel =>
          refine ⟨ret0 ?_, rfl⟩
          rw [Stf.mns_low z _ ‹_› ‹_› (by omega), beq_eq_false_iff_ne.2 ‹¬ (s[k].toNat : Int) = 126›, beq_eq_false_iff_ne.2 ‹¬ (s[k].toNat : Int) = 125›, low_u64 z s[k].toNat (by omega)]; rfl
        case rel =>
          refine ⟨ret0 ?_, rfl⟩
          rw [Stf.mns_high z _ ‹_› ‹_› (by omega), beq_eq_false_iff_ne.2 ‹¬ (s[k].toNat : Int) = 126›, beq_eq_false_iff_ne.2 ‹¬ (s[k].toNat : Int) = 125›]; rfl
      case rest =>
        obtain ⟨rfl, rfl⟩ := hcut
        have HT := Lib.hid (take_snoc s k hlt)
        have HP := Lib.hid (Stf.cnt_snoc z (s.data.toList.take k) s[k])
        cases hm : Stf.mns z s[k]
        · have HN := Lib.hid hm
          clear hm
          go_wp2_with fail
          go_round
          case rel => exact ⟨k + 1, by omega, by go_num, by rw [HT.out, HP.out, HN.out]; rfl⟩
          case measure => simp [intOf]; omega
        · have HN := Lib.hid hm
          clear hm
          go_wp2_with fail
          go_round
          case rel => exact ⟨k + 1, by omega, by go_num, by rw [HT.out, HP.out, HN.out]; go_num⟩
          case measure => simp [intOf]; omega
    · obtain rfl : k = s.size := by omega
      have HT : Hid (s.data.toList.take s.size = s.data.toList) := Lib.hid (List.take_of_length_le (by simp))
      rw [HT.out] at hcl hl ⊢
      have hq : (((Stf.put z s.data.toList).length : Int) == (s.size : Int) + (Stf.cnt z s.data.toList : Int)) = true := by
        rw [beq_iff_eq, HZ.out]; simp
      have hqq : (Stf.put 0 s.data.toList == Stf.put 0 s.data.toList) = true := by simp
      generalize Stf.put z s.data.toList = T at *
      generalize Stf.put 0 s.data.toList = T0 at *
      generalize Stf.cnt z s.data.toList = c at *
      go_wp2_with fail
      refine (P1.out _).mono ?_
      rintro e w1 ⟨rfl, hb1⟩
      have B1 := Lib.hid (bel2 B0.out hb1)
      clear hb1
      go_wp2_with fail
      refine (P2.out _).mono ?_
      rintro e w2 ⟨rfl, hb2⟩
      have B2 := Lib.hid (bel2 B1.out hb2)
      clear hb2
      go_wp2_with fail
      refine (P3.out _).mono ?_
      rintro e w3 ⟨rfl, hb3⟩
      have B3 := Lib.hid (bel2 B2.out hb3)
      clear hb3
      go_wp2_with (go_at_call 15; refine (num_any _ _).mono ?_; rintro e w9 ⟨rfl, rfl⟩)
      go_ret
      exact ⟨rfl, B3.out⟩
end Go.Proofs.Ytpbmchgjjfaanaa
