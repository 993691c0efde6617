/-
  Contract of the document's own Split.
-/
import Derived.Test.YtpbmchgjjfaanaaV6
import Derived.Deep.QuietTactic
import Derived.BigQuiet
namespace Go.Proofs.Ytpbmchgjjfaanaa
open Go.RowKit
theorem ret_vs {v : Value} {a b : ByteArray} (h : a = b) : Ending.returned (.tuple #[v, .string a]) = .returned (.tuple #[v, .string b]) := by rw [h]
set_option maxHeartbeats 800000 in
theorem rsplit_any (s : ByteArray) (w : World) (hs : s.size ≤ 268435456) : Calls Try.prog 12 #[.string s] w (SplitPost s.data.toList w) := by
  go_enter Try.func12, Try.ntmps12
  go_wp2_with fail
  go_loopw [4, 5, 6] (fun f b i wr => ∃ k bg : Nat, k ≤ s.size ∧ i = .int .i64 k ∧ bg + (Stf.srun (s.data.toList.take k)).2.2.length = k ∧ ((b = .int .i64 (-1) ∧ (Stf.srun (s.data.toList.take k)).2.1 = false) ∨ (b = .int .i64 bg ∧ (Stf.srun (s.data.toList.take k)).2.1 = true)) ∧ OwnsT w wr f (Stf.srun (s.data.toList.take k)).1) (fun _ _ i _ => s.size - (intOf i).toNat)
  case atStart => exact ⟨0, 0, by omega, rfl, rfl, .inl ⟨rfl, rfl⟩, OwnsT.nil w⟩
  case round =>
    obtain ⟨k, bg, hk, rfl, hbg, hop, hB⟩ := hrel
    have HB := Lib.hid hB
    have HK := Lib.hid hbg
    clear hB hbg
    have HC := Stf.srun_count (s.data.toList.take k)
    have HL2 : (s.data.toList.take k).length = k := by rw [List.length_take]; simp; omega
    have HL3 := Lib.hid HL2
    clear HL2
    have hbk : bg ≤ k := by have := HK.out; omega
    have HE := Lib.hid (Stf.srun_end (s.data.toList.take k))
    by_cases hlt : k < s.size
    · have HT := Lib.hid (take_snoc s k hlt)
      have HS := Lib.hid (Stf.srun_snoc (s.data.toList.take k) s[k])
      generalize hg : Stf.srun (s.data.toList.take k) = g at *
      have HG := Lib.hid hg
      clear hg
      obtain ⟨fs, op, cur⟩ := g
      by_cases h126 : s[k] = 126
      · have q1 : ((s[k].toNat : Int) != 126) = false := by rw [bne_eq_false_iff_eq]; exact congrArg (fun b : UInt8 => (b.toNat : Int)) h126
        have H1 := Lib.hid h126
        clear h126
        rcases hop with ⟨rfl, hop⟩ | ⟨rfl, hop⟩
        · obtain rfl : op = false := hop
          have HR : Hid (Stf.srun (s.data.toList.take (k + 1)) = (fs, true, [])) := Lib.hid (by rw [HT.out, HS.out, sstep_first _ _ _ H1.out])
          go_wp2_with fail
          go_roundw
          case rel => exact ⟨k + 1, k + 1, by omega, by go_num, by rw [HR.out]; rfl, .inr ⟨by go_num, by rw [HR.out]⟩, by rw [HR.out]; exact HB.out⟩
          case measure => simp [intOf]; omega
        · obtain rfl : op = true := hop
          by_cases hlt2 : bg < k
          · have hc : cur ≠ [] := by rintro rfl; have := HK.out; simp at this; omega
            have HR : Hid (Stf.srun (s.data.toList.take (k + 1)) = (fs ++ [cur], true, [])) := Lib.hid (by rw [HT.out, HS.out, sstep_cut _ _ _ H1.out hc])
            clear hc
            have hp := cut_piece s k bg cur hk HE.out.1 HK.out
            go_wp2_with (at_builtin; refine wp_pushT rfl _ _ rfl fs [cur] HB.out rfl rfl (by have := HL3.out; simp at HC; simp; omega) ?_)
            intro v' w2 hown'
            have HB2 := Lib.hid hown'
            clear hown'
            go_wp2_with fail
            go_roundw
            case rel => exact ⟨k + 1, k + 1, by omega, by go_num, by rw [HR.out]; rfl, .inr ⟨by go_num, by rw [HR.out]⟩, by rw [HR.out]; exact HB2.out⟩
            case measure => simp [intOf]; omega
          · obtain rfl : bg = k := by omega
            obtain rfl : cur = [] := by have := HK.out; simp at this; exact this
            have HR : Hid (Stf.srun (s.data.toList.take (bg + 1)) = (fs, true, [])) := Lib.hid (by rw [HT.out, HS.out, sstep_none _ _ _ H1.out])
            go_wp2_with fail
            go_roundw
            case rel => exact ⟨bg + 1, bg + 1, by omega, by go_num, by rw [HR.out]; rfl, .inr ⟨by go_num, by rw [HR.out]⟩, by rw [HR.out]; exact HB.out⟩
            case measure => simp [intOf]; omega
      · have q1 : ((s[k].toNat : Int) != 126) = true := by rw [bne_iff_ne]; intro e; exact h126 (UInt8.toNat_inj.1 (by simp; omega))
        have HR : Hid (Stf.srun (s.data.toList.take (k + 1)) = (fs, op, cur ++ [s[k]])) := Lib.hid (by rw [HT.out, HS.out, sstep_byte _ _ _ _ h126])
        clear h126
        have HO := Lib.hid hop
        clear hop
        go_wp2_with fail
        go_roundw
        case rel => exact ⟨k + 1, bg, by omega, by go_num, by rw [HR.out]; have := HK.out; simp at this; simp; omega, by rw [HR.out]; exact HO.out, by rw [HR.out]; exact HB.out⟩
        case measure => simp [intOf]; omega
    · obtain rfl : k = s.size := by omega
      have HZ : Hid (s.data.toList.take s.size = s.data.toList) := Lib.hid (List.take_of_length_le (by simp))
      generalize hg : Stf.srun (s.data.toList.take s.size) = g at *
      have HG : Hid (Stf.split s.data.toList = (g.1, g.2.2)) := Lib.hid (by rw [← hg, HZ.out]; rfl)
      clear hg
      obtain ⟨fs, op, cur⟩ := g
      rcases hop with ⟨rfl, hop⟩ | ⟨rfl, hop⟩
      · have HN := Lib.hid (HE.out.2 hop)
        clear hop
        go_wp2_with fail
        go_ret2
        refine ⟨.slice none 0 0, ret_vs (a := s) ?_, ?_⟩
        · rw [HG.out]; show s = ⟨cur.toArray⟩
          rw [HN.out.1, HZ.out]
        rw [HG.out]; show OwnsT w _ _ fs
        rw [HN.out.2]
        exact ⟨World.ownsRow_nil _ _ _ _, HB.out.2⟩
      · clear hop
        have hp := cut_piece s s.size bg cur hk HE.out.1 HK.out
        go_wp2_with fail
        go_quiet (fail)
        obtain ⟨wq, hwq⟩ : ∃ wq, wq = wr.drewN nq := ⟨_, rfl⟩
        have HB1 := Lib.hid (HB.out.below (hwq ▸ below_drewN (Below.refl _ _) nq))
        rw [← hwq]
        clear hwq
        go_wp2_with fail
        go_ret2
        exact ⟨_, by rw [HG.out]; rfl, by rw [HG.out]; exact HB1.out⟩
end Go.Proofs.Ytpbmchgjjfaanaa
