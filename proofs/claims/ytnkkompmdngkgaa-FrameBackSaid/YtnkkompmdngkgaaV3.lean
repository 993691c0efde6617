/-
  Contract of the document's own Stuff.
-/
import Derived.Test.YtnkkompmdngkgaaV2
import Derived.Deep.DeepCutAuto
import Derived.Laws.BytesString
namespace Go.Proofs.Ytnkkompmdngkgaa.S
open Go.RowKit
theorem low_u64 (z : Int) (n : Nat) (h : n < 32) : bits BinOp.and IntKind.u64 (IntKind.u64.wrap z / 2 ^ n) 1 = z / 2 ^ n % 2 := by
  have e := Stf.bit_wrap z n 64 (by omega)
  have hM : (2 : Int) ^ 64 = 18446744073709551616 := by decide
  rw [hM] at e
  rw [IntKind.wrap_u64]
  have h0 := Int.emod_nonneg z (b := 18446744073709551616) (by omega)
  have h1 := Int.emod_lt_of_pos z (b := 18446744073709551616) (by omega)
  have hp : (0 : Int) < 2 ^ n := Int.pow_pos (by omega)
  have h2 := Int.ediv_nonneg h0 (Int.le_of_lt hp)
  have h3 : z % 18446744073709551616 / 2 ^ n ≤ z % 18446744073709551616 := Int.ediv_le_self _ h0
  obtain ⟨y, hy⟩ := Int.eq_ofNat_of_zero_le h2
  rw [hy] at e ⊢
  have := u64_and_nat y 1 (by omega) (by omega)
  rw [Nat.and_one_is_mod] at this
  rw [← e]
  exact this
set_option maxHeartbeats 400000 in
theorem stuff_any (s : ByteArray) (z : Int) (w : World) (hs : s.size ≤ 268435456) : Calls Try.prog 14 #[.string s, .int .i64 z] w fun e w' => e = .returned (.string ⟨(Stf.put z s.data.toList).toArray⟩) ∧ Below w.heap.size w w' := by
  go_enter Try.func14, Try.ntmps14
  go_wp2_with fail
  go_loopw [5, 6] (fun o i wr => ∃ k : Nat, k ≤ s.size ∧ i = .int .i64 k ∧ Owns w wr o (Stf.put z (s.data.toList.take k))) (fun _ i _ => s.size - (intOf i).toNat)
  case atStart => exact ⟨0, by omega, rfl, Owns.nil w⟩
  case round =>
    obtain ⟨k, hk, rfl, hB⟩ := hrel
    have HB := Lib.hid hB
    clear hB
    have HL := (Stf.put_length z (s.data.toList.take k)).2
    have HL2 : (s.data.toList.take k).length ≤ k := List.length_take_le _ _
    have hlen : (Stf.put z (s.data.toList.take k)).length + 2 ≤ 1073741824 := by omega
    by_cases hlt : k < s.size
    · go_upto_region 6 with (fail)
      go_cut [7, 34] (fun c t wx => c = .int .u8 (s[k].toNat : Int) ∧ t = .bool (Stf.mns z s[k]) ∧ wx = wr)
      case first =>
        go_wp2_with fail
        all_goals go_meet
        case rel => exact ⟨by first | rfl | simp [*], ret0 (Stf.mns_mark z _ ‹_›).symm, rfl⟩
        case rel => exact ⟨by first | rfl | simp [*], ret0 (Stf.mns_flag z _ ‹_›).symm, rfl⟩
        case rel =>
          refine ⟨rfl, ret0 ?_, rfl⟩
          rw [Stf.mns_low z _ ‹_› ‹_› (by omega)]
          rw [beq_eq_false_iff_ne.2 ‹¬ (s[k].toNat : Int) = 126›, beq_eq_false_iff_ne.2 ‹¬ (s[k].toNat : Int) = 125›]
          rw [low_u64 z s[k].toNat (by omega)]; rfl
        case rel =>
          refine ⟨rfl, ret0 ?_, rfl⟩
          rw [Stf.mns_high z _ ‹_› ‹_› (by omega), beq_eq_false_iff_ne.2 ‹¬ (s[k].toNat : Int) = 126›, beq_eq_false_iff_ne.2 ‹¬ (s[k].toNat : Int) = 125›]; rfl
      case rest =>
        obtain ⟨rfl, rfl, rfl⟩ := hcut
        have HT := Lib.hid (take_snoc s k hlt)
        have HP := Lib.hid (Stf.put_snoc z (s.data.toList.take k) s[k])
        cases hm : Stf.mns z s[k]
        · have HO : Hid (Stf.one z s[k] = [s[k]]) := Lib.hid (if_neg (by simp [hm]))
          clear hm
          go_wp2_with (at_builtin; refine wp_push rfl _ _ rfl (Stf.put z (s.data.toList.take k)) [s[k]] HB.out rfl rfl (by simp; omega) ?_)
          intro v' w2 hown'
          have HB2 := Lib.hid hown'
          clear hown'
          go_wp2_with fail
          go_roundw
          case rel => exact ⟨k + 1, by omega, by go_num, by rw [HT.out, HP.out, HO.out]; exact HB2.out⟩
          case measure => simp [intOf]; omega
        · have HO : Hid (Stf.one z s[k] = [125, s[k] ^^^ 32]) := Lib.hid (if_pos hm)
          have hx := turn_int s[k]
          clear hm
          go_wp2_with (at_builtin; refine wp_push rfl _ _ rfl (Stf.put z (s.data.toList.take k)) [125, s[k] ^^^ 32] HB.out rfl rfl hlen ?_)
          intro v' w2 hown'
          have HB2 := Lib.hid hown'
          clear hown'
          go_wp2_with fail
          go_roundw
          case rel => exact ⟨k + 1, by omega, by go_num, by rw [HT.out, HP.out, HO.out]; exact HB2.out⟩
          case measure => simp [intOf]; omega
    · obtain rfl : k = s.size := by omega
      have hcv := HB.out.text
      go_wp2_with fail
      go_ret
      exact ⟨ret_str (by rw [List.take_of_length_le (by simp)]), HB.out.2⟩
end Go.Proofs.Ytnkkompmdngkgaa.S
