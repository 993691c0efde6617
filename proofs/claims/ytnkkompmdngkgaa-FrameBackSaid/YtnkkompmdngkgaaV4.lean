/-
  Contract of the program's Get.
-/
import Derived.Test.YtnkkompmdngkgaaV3
namespace Go.Proofs.Ytnkkompmdngkgaa.S
open Go.RowKit
theorem gstep_open (o : List UInt8) (b : UInt8) : Stf.gstep (true, o) b = (false, o ++ [b ^^^ 32]) := rfl
theorem gstep_mark (o : List UInt8) (b : UInt8) (h : b = 125) : Stf.gstep (false, o) b = (true, o) := by subst h; rfl
theorem gstep_byte (o : List UInt8) (b : UInt8) (h : b ≠ 125) : Stf.gstep (false, o) b = (false, o ++ [b]) := by simp [Stf.gstep, h]
set_option maxHeartbeats 800000 in
theorem get_any (s : ByteArray) (w : World) (hs : s.size ≤ 268435456) : Calls Try.prog 19 #[.string s] w fun e w' => e = .returned (.tuple #[.string ⟨(Stf.get s.data.toList).1.toArray⟩, .int .i64 (Stf.get s.data.toList).2]) ∧ Below w.heap.size w w' := by
  go_enter Try.func19, Try.ntmps19
  go_wp2_with fail
  refine (Try.bldGrow w.heap.size w.heap.size s.size _ (Nat.le_refl _) (heap_alloc_new _ _) (by simp) (by omega)).mono ?_
  rintro e w0 ⟨rfl, hB, hb⟩
  have HB := Lib.hid hB
  have Hb := Lib.hid (Below.trans ((Below.refl w.heap.size w).alloc (Nat.le_refl _) _) hb)
  clear hB hb
  go_wp2_with fail
  go_loopw [5, 13] (fun m i wr => ∃ k : Nat, k ≤ s.size ∧ i = .int .i64 k ∧ m = .bool (Stf.grun (s.data.toList.take k)).1 ∧ Lib.BuilderAt 60 5 w.heap.size w.heap.size (.pointer (some ⟨w.heap.size, 0, none⟩)) (Lib.byteCells (Stf.grun (s.data.toList.take k)).2) wr ∧ Below w.heap.size w wr ∧ 126 ∉ s.data.toList.take k) (fun _ i _ => s.size - (intOf i).toNat)
  case atStart => exact ⟨0, by omega, rfl, rfl, HB.out, Hb.out, by simp⟩
  case round =>
    obtain ⟨k, hk, rfl, rfl, hB, hb, hnf⟩ := hrel
    have HB := Lib.hid hB
    have Hb := Lib.hid hb
    have HN := Lib.hid hnf
    clear hB hb hnf
    have HL := Stf.grun_length (s.data.toList.take k)
    have HL2 : (s.data.toList.take k).length ≤ k := List.length_take_le _ _
    by_cases hlt : k < s.size
    · have HT := Lib.hid (take_snoc s k hlt)
      have HS := Lib.hid (Stf.grun_snoc (s.data.toList.take k) s[k])
      generalize hg : Stf.grun (s.data.toList.take k) = g at *
      have HG := Lib.hid hg
      clear hg
      obtain ⟨mk, o⟩ := g
      by_cases h126 : s[k] = 126
      · have q1 : ((s[k].toNat : Int) == 126) = true := byte_eq _ 126 h126
        have HF : Hid (Stf.get s.data.toList = ([], 201)) := Lib.hid (Stf.get_flag _ (h126 ▸ at_mem s k hlt))
        clear h126
        go_wp2_with fail
        go_ret2
        exact ⟨by rw [HF.out]; rfl, Hb.out⟩
      · have q1 : ((s[k].toNat : Int) == 126) = false := byte_ne _ 126 h126
        have HN2 : Hid (126 ∉ s.data.toList.take (k + 1)) := by
          have h := HN.out
          refine Lib.hid ?_
          rw [HT.out, List.mem_append, List.mem_singleton]
          rintro (h2 | h2)
          · exact h h2
          · exact h126 h2.symm
        clear h126
        cases mk
        · by_cases h125 : s[k] = 125
          · have q2 : ((s[k].toNat : Int) == 125) = true := byte_eq _ 125 h125
            have HE := Lib.hid (gstep_mark o _ h125)
            clear h125
            go_wp2_with fail
            go_roundw
            case rel => exact ⟨k + 1, by omega, by go_num, by rw [HT.out, HS.out, HE.out], by rw [HT.out, HS.out, HE.out]; exact HB.out, Hb.out, HN2.out⟩
            case measure => simp [intOf]; omega
          · have q2 : ((s[k].toNat : Int) == 125) = false := byte_ne _ 125 h125
            have HE := Lib.hid (gstep_byte o _ h125)
            clear h125
            go_wp2_with fail
            refine (Try.bldByte w.heap.size w.heap.size _ _ _ (Or.inr HB.out) (by rw [bc_length]; simp at HL; omega) Hb.out.size).mono ?_
            rintro e w2 ⟨rfl, hB2, hb2⟩
            have HB2 := Lib.hid hB2
            have Hb2 := Lib.hid (Hb.out.trans hb2)
            clear hB2 hb2
            go_wp2_with fail
            go_roundw
            case rel => exact ⟨k + 1, by omega, by go_num, by rw [HT.out, HS.out, HE.out], by rw [HT.out, HS.out, HE.out, ← bc_snoc]; exact HB2.out, Hb2.out, HN2.out⟩
            case measure => simp [intOf]; omega
        · have hx := turn_int s[k]
          have HE := Lib.hid (gstep_open o s[k])
          go_wp2_with fail
          refine (Try.bldByte w.heap.size w.heap.size _ _ _ (Or.inr HB.out) (by rw [bc_length]; simp at HL; omega) Hb.out.size).mono ?_
          rintro e w2 ⟨rfl, hB2, hb2⟩
          have HB2 := Lib.hid hB2
          have Hb2 := Lib.hid (Hb.out.trans hb2)
          clear hB2 hb2
          go_wp2_with fail
          go_roundw
          case rel => exact ⟨k + 1, by omega, by go_num, by rw [HT.out, HS.out, HE.out], by rw [HT.out, HS.out, HE.out, ← bc_snoc]; exact HB2.out, Hb2.out, HN2.out⟩
          case measure => simp [intOf]; omega
    · obtain rfl : k = s.size := by omega
      have HN2 := Lib.hid (fun h => HN.out ((mem_take_end s 126).2 h))
      have HE : Hid (s.data.toList.take s.size = s.data.toList) := Lib.hid (List.take_of_length_le (by simp))
      generalize hg : Stf.grun (s.data.toList.take s.size) = g at *
      rw [HE.out] at hg
      have HG := Lib.hid hg
      clear hg
      obtain ⟨mk, o⟩ := g
      cases mk
      · have HF := Lib.hid (Stf.get_good _ HN2.out (by rw [HG.out]))
        go_wp2_with fail
        refine (Try.bldText w.heap.size w.heap.size _ _ (Or.inr HB.out) Hb.out.size).mono ?_
        rintro e w2 ⟨rfl, hb2⟩
        go_wp2_with fail
        go_ret2
        exact ⟨by rw [HF.out, HG.out]; rfl, Hb.out.trans hb2⟩
      · have HF := Lib.hid (Stf.get_end _ HN2.out (by rw [HG.out]))
        go_wp2_with fail
        go_ret2
        exact ⟨by rw [HF.out]; rfl, Hb.out⟩
end Go.Proofs.Ytnkkompmdngkgaa.S
