/-
  Contract of the program's Split.
-/
import Derived.Test.YtnkkompmdngkgaaTxt
import Derived.Test.YtnkkompmdngkgaaClone
import Derived.Test.YtnkkompmdngkgaaSMath
import Derived.Outline
namespace Go.Proofs.Ytnkkompmdngkgaa.S
open Go.RowKit
/-- What is returned: a slice of texts of the call's own, and a text. -/
def SplitPost (l : List UInt8) (w : World) (e : Ending) (w' : World) : Prop := ∃ v, e = .returned (.tuple #[v, .string ⟨(Stf.split l).2.toArray⟩]) ∧ OwnsT w w' v (Stf.split l).1
/-- A piece of a text: what its list is. -/
theorem piece (s : ByteArray) (a b : Nat) (p q c : List UInt8) (h : s.data.toList = p ++ c ++ q) (ha : a = p.length) (hb : b = a + c.length) : s.extract a b = ⟨c.toArray⟩ := by
  apply ByteArray.ext; apply Array.toList_inj.1
  rw [ByteArray.data_extract, Array.toList_extract, h, ha, hb, ha]
  simp [List.extract]
theorem cut_piece (s : ByteArray) (k bg : Nat) (cur : List UInt8) (hk : k ≤ s.size) (h : ∃ p, s.data.toList.take k = p ++ cur) (hbg : bg + cur.length = k) : s.extract bg k = ⟨cur.toArray⟩ := by
  obtain ⟨p, hp⟩ := h
  have hl := congrArg List.length hp
  rw [List.length_take, List.length_append] at hl
  have hz : s.data.toList.length = s.size := by simp
  refine piece s bg k p (s.data.toList.drop k) cur ?_ (by omega) (by omega)
  rw [← hp, List.take_append_drop]
theorem sstep_cut (fs : List (List UInt8)) (cur : List UInt8) (b : UInt8) (h : b = 126) (hc : cur ≠ []) : Stf.sstep (fs, true, cur) b = (fs ++ [cur], true, []) := by simp [Stf.sstep, h, hc]
theorem sstep_none (fs : List (List UInt8)) (op : Bool) (b : UInt8) (h : b = 126) : Stf.sstep (fs, op, []) b = (fs, true, []) := by simp [Stf.sstep, h]
theorem sstep_first (fs : List (List UInt8)) (cur : List UInt8) (b : UInt8) (h : b = 126) : Stf.sstep (fs, false, cur) b = (fs, true, []) := by simp [Stf.sstep, h]
theorem sstep_byte (fs : List (List UInt8)) (op : Bool) (cur : List UInt8) (b : UInt8) (h : b ≠ 126) : Stf.sstep (fs, op, cur) b = (fs, op, cur ++ [b]) := by simp [Stf.sstep, h]
set_option maxHeartbeats 800000 in
theorem split_any (s : ByteArray) (w : World) (hs : s.size ≤ 268435456) : Calls Try.prog 18 #[.string s] w (SplitPost s.data.toList w) := by
  go_enter Try.func18, Try.ntmps18
  go_wp2_with fail
  go_loopw [4, 5, 6, 10] (fun f b o i wr => ∃ k bg : Nat, k ≤ s.size ∧ i = .int .i64 k ∧ b = .int .i64 bg ∧ bg + (Stf.srun (s.data.toList.take k)).2.2.length = k ∧ o = .bool (Stf.srun (s.data.toList.take k)).2.1 ∧ OwnsT w wr f (Stf.srun (s.data.toList.take k)).1) (fun _ _ _ i _ => s.size - (intOf i).toNat)
  case atStart => exact ⟨0, 0, by omega, rfl, rfl, rfl, rfl, OwnsT.nil w⟩
  case round =>
    obtain ⟨k, bg, hk, rfl, rfl, hbg, rfl, hB⟩ := hrel
    have HB := Lib.hid hB
    have HK := Lib.hid hbg
    clear hB hbg
    have HC := Stf.srun_count (s.data.toList.take k)
    have HL2 : (s.data.toList.take k).length = k := by rw [List.length_take]; simp; omega
    have HL3 := Lib.hid HL2
    clear HL2
    have hbk : bg ≤ k := by have := HK.out; omega
    have HE := Lib.hid (Stf.srun_end (s.data.toList.take k)).1
    by_cases hlt : k < s.size
    · have HT := Lib.hid (take_snoc s k hlt)
      have HS := Lib.hid (Stf.srun_snoc (s.data.toList.take k) s[k])
      generalize hg : Stf.srun (s.data.toList.take k) = g at *
      have HG := Lib.hid hg
      clear hg
      obtain ⟨fs, op, cur⟩ := g
      by_cases h126 : s[k] = 126
      · have q1 : ((s[k].toNat : Int) != 126) = false := by rw [bne_eq_false_iff_eq]; exact congrArg (fun b : UInt8 => (b.toNat : Int)) h126
        have H1 := Lib.hid h126
        clear h126
        cases op
        · have HR : Hid (Stf.srun (s.data.toList.take (k + 1)) = (fs, true, [])) := Lib.hid (by rw [HT.out, HS.out, sstep_first _ _ _ H1.out])
          go_wp2_with fail
          go_roundw
          case rel => exact ⟨k + 1, k + 1, by omega, by go_num, by go_num, by rw [HR.out]; rfl, by rw [HR.out], by rw [HR.out]; exact HB.out⟩
          case measure => simp [intOf]; omega
        · by_cases hlt2 : bg < k
          · have hc : cur ≠ [] := by rintro rfl; have := HK.out; simp at this; omega
            have HR : Hid (Stf.srun (s.data.toList.take (k + 1)) = (fs ++ [cur], true, [])) := Lib.hid (by rw [HT.out, HS.out, sstep_cut _ _ _ H1.out hc])
            clear hc
            have hp := cut_piece s k bg cur hk HE.out HK.out
            have hcz : (ByteArray.mk cur.toArray).size ≤ 281474976710656 := by have := HK.out; simp at this; simp [ByteArray.size]; omega
            go_wp2_with fail
            refine (clone_any _ _ hcz).mono ?_
            rintro e w1 ⟨rfl, hb1⟩
            have HB1 := Lib.hid (HB.out.below hb1)
            clear hb1
            go_wp2_with (at_builtin; refine wp_pushT rfl _ _ rfl fs [cur] HB1.out rfl rfl (by have := HL3.out; simp at HC; simp; omega) ?_)
            intro v' w2 hown'
            have HB2 := Lib.hid hown'
            clear hown'
            go_wp2_with fail
            go_roundw
            case rel => exact ⟨k + 1, k + 1, by omega, by go_num, by go_num, by rw [HR.out]; rfl, by rw [HR.out], by rw [HR.out]; exact HB2.out⟩
            case measure => simp [intOf]; omega
          · obtain rfl : bg = k := by omega
            obtain rfl : cur = [] := by have := HK.out; simp at this; exact this
            have HR : Hid (Stf.srun (s.data.toList.take (bg + 1)) = (fs, true, [])) := Lib.hid (by rw [HT.out, HS.out, sstep_none _ _ _ H1.out])
            go_wp2_with fail
            go_roundw
            case rel => exact ⟨bg + 1, bg + 1, by omega, by go_num, by go_num, by rw [HR.out]; rfl, by rw [HR.out], by rw [HR.out]; exact HB.out⟩
            case measure => simp [intOf]; omega
      · have q1 : ((s[k].toNat : Int) != 126) = true := by rw [bne_iff_ne]; intro e; exact h126 (UInt8.toNat_inj.1 (by simp; omega))
        have HR : Hid (Stf.srun (s.data.toList.take (k + 1)) = (fs, op, cur ++ [s[k]])) := Lib.hid (by rw [HT.out, HS.out, sstep_byte _ _ _ _ h126])
        clear h126
        go_wp2_with fail
        go_roundw
        case rel => exact ⟨k + 1, bg, by omega, by go_num, rfl, by rw [HR.out]; have := HK.out; simp at this; simp; omega, by rw [HR.out], by rw [HR.out]; exact HB.out⟩
        case measure => simp [intOf]; omega
    · obtain rfl : k = s.size := by omega
      have HZ : Hid (s.data.toList.take s.size = s.data.toList) := Lib.hid (List.take_of_length_le (by simp))
      generalize hg : Stf.srun (s.data.toList.take s.size) = g at *
      have HG : Hid (Stf.split s.data.toList = (g.1, g.2.2)) := Lib.hid (by rw [← hg, HZ.out]; rfl)
      clear hg
      obtain ⟨fs, op, cur⟩ := g
      have hp := cut_piece s s.size bg cur hk HE.out HK.out
      have hcz : (ByteArray.mk cur.toArray).size ≤ 281474976710656 := by have := HK.out; simp at this; simp [ByteArray.size]; omega
      go_wp2_with fail
      refine (clone_any _ _ hcz).mono ?_
      rintro e w1 ⟨rfl, hb1⟩
      have HB1 := Lib.hid (HB.out.below hb1)
      clear hb1
      go_wp2_with fail
      go_ret2
      exact ⟨_, by rw [HG.out]; rfl, by rw [HG.out]; exact HB1.out⟩
end Go.Proofs.Ytnkkompmdngkgaa.S
