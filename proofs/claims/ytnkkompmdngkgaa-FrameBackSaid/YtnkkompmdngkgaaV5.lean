/-
  Contract of the document's own Unstuff.
-/
import Derived.Test.YtnkkompmdngkgaaV4
namespace Go.Proofs.Ytnkkompmdngkgaa.S
open Go.RowKit
set_option maxHeartbeats 800000 in
theorem unstuff_any (s : ByteArray) (w : World) (hs : s.size ≤ 268435456) : Calls Try.prog 29 #[.string s] w fun e w' => e = .returned (.tuple #[.string ⟨(Stf.get s.data.toList).1.toArray⟩, .int .i64 (Stf.get s.data.toList).2]) ∧ Below w.heap.size w w' := by
  go_enter Try.func29, Try.ntmps29
  go_wp2_with fail
  go_loop [5] (fun i => ∃ k : Nat, k ≤ s.size ∧ i = .int .i64 k ∧ 126 ∉ s.data.toList.take k) (fun i => s.size - (intOf i).toNat)
  case atStart => exact ⟨0, by omega, rfl, by simp⟩
  case round =>
    obtain ⟨k, hk, rfl, hnf⟩ := hrel
    have HN := Lib.hid hnf
    clear hnf
    by_cases hlt : k < s.size
    · by_cases h126 : s[k] = 126
      · have q1 : ((s[k].toNat : Int) == 126) = true := byte_eq _ 126 h126
        have HF : Hid (Stf.get s.data.toList = ([], 201)) := Lib.hid (Stf.get_flag _ (h126 ▸ at_mem s k hlt))
        clear h126
        go_wp2_with fail
        go_ret2
        exact ⟨by rw [HF.out]; rfl, Below.refl _ _⟩
      · have q1 : ((s[k].toNat : Int) == 126) = false := byte_ne _ 126 h126
        have HN2 : Hid (126 ∉ s.data.toList.take (k + 1)) := by
          have h := HN.out
          refine Lib.hid ?_
          rw [take_snoc s k hlt, List.mem_append, List.mem_singleton]
          rintro (h2 | h2)
          · exact h h2
          · exact h126 h2.symm
        clear h126
        go_wp2_with fail
        go_round
        case rel => exact ⟨k + 1, by omega, by go_num, HN2.out⟩
        case measure => simp [intOf]; omega
    · obtain rfl : k = s.size := by omega
      have HN2 := Lib.hid (fun h => HN.out ((mem_take_end s 126).2 h))
      clear HN
      go_wp2_with fail
      go_loopw [4, 6] (fun o i wr => ∃ k : Nat, k ≤ s.size ∧ i = .int .i64 k ∧ Owns w wr o (Stf.grun (s.data.toList.take k)).2 ∧ (Stf.grun (s.data.toList.take k)).1 = false) (fun _ i _ => s.size - (intOf i).toNat)
      case atStart => exact ⟨0, by omega, rfl, Owns.nil w, rfl⟩
      case round =>
        obtain ⟨k, hk, rfl, hB, hf⟩ := hrel
        have HB := Lib.hid hB
        clear hB
        have HL := Stf.grun_length (s.data.toList.take k)
        have HL2 : (s.data.toList.take k).length ≤ k := List.length_take_le _ _
        generalize hg : Stf.grun (s.data.toList.take k) = g at *
        have HG := Lib.hid hg
        clear hg
        obtain ⟨mk, o⟩ := g
        obtain rfl : mk = false := hf
        by_cases hlt : k < s.size
        · have HT := Lib.hid (take_snoc s k hlt)
          have HS := Lib.hid (Stf.grun_snoc (s.data.toList.take k) s[k])
          by_cases h125 : s[k] = 125
          · have q2 : ((s[k].toNat : Int) != 125) = false := by rw [bne_eq_false_iff_eq]; exact congrArg (fun b : UInt8 => (b.toNat : Int)) h125
            have HE := Lib.hid (gstep_mark o _ h125)
            clear h125
            by_cases hlt2 : k + 1 < s.size
            · have q3 : (((k : Int) + 1) == (s.size : Int)) = false := by rw [beq_eq_false_iff_ne]; omega
              have HT2 := Lib.hid (take_snoc s (k + 1) hlt2)
              have HS2 := Lib.hid (Stf.grun_snoc (s.data.toList.take (k + 1)) s[k + 1])
              have HE2 := Lib.hid (gstep_open o s[k + 1])
              have hx := turn_int s[k + 1]
              have HR : Hid (Stf.grun (s.data.toList.take (k + 2)) = (false, o ++ [s[k + 1] ^^^ 32])) := by
                refine Lib.hid ?_
                rw [HT2.out, HS2.out, HT.out, HS.out, HG.out, HE.out, HE2.out]
              go_wp2_with (at_builtin; refine wp_push rfl _ _ rfl o [s[k + 1] ^^^ 32] HB.out rfl rfl (by simp at HL; simp; omega) ?_)
              intro v' w2 hown'
              have HB2 := Lib.hid hown'
              clear hown'
              go_wp2_with fail
              go_roundw
              case rel => exact ⟨k + 2, by omega, by go_num, by rw [HR.out]; exact HB2.out, by rw [HR.out]⟩
              case measure => simp [intOf]; omega
            · have q3 : (((k : Int) + 1) == (s.size : Int)) = true := by rw [beq_iff_eq]; omega
              have HF : Hid (Stf.get s.data.toList = ([], 200)) := by
                refine Lib.hid (Stf.get_end _ HN2.out ?_)
                have e : s.data.toList = s.data.toList.take (k + 1) := by rw [List.take_of_length_le (by simp; omega)]
                rw [e, HT.out, HS.out, HG.out, HE.out]
              go_wp2_with fail
              go_ret2
              exact ⟨by rw [HF.out]; rfl, HB.out.2⟩
          · have q2 : ((s[k].toNat : Int) != 125) = true := by rw [bne_iff_ne]; intro e; exact h125 (UInt8.toNat_inj.1 (by simp; omega))
            have HE := Lib.hid (gstep_byte o _ h125)
            clear h125
            have HR : Hid (Stf.grun (s.data.toList.take (k + 1)) = (false, o ++ [s[k]])) := by
              refine Lib.hid ?_
              rw [HT.out, HS.out, HG.out, HE.out]
            go_wp2_with (at_builtin; refine wp_push rfl _ _ rfl o [s[k]] HB.out rfl rfl (by simp at HL; simp; omega) ?_)
            intro v' w2 hown'
            have HB2 := Lib.hid hown'
            clear hown'
            go_wp2_with fail
            go_roundw
            case rel => exact ⟨k + 1, by omega, by go_num, by rw [HR.out]; exact HB2.out, by rw [HR.out]⟩
            case measure => simp [intOf]; omega
        · obtain rfl : k = s.size := by omega
          have HF : Hid (Stf.get s.data.toList = (o, 0)) := by
            have e : s.data.toList.take s.size = s.data.toList := List.take_of_length_le (by simp)
            have h := HG.out
            rw [e] at h
            refine Lib.hid ((Stf.get_good _ HN2.out (by rw [h])).trans ?_)
            rw [h]
          have hcv := HB.out.text
          go_wp2_with fail
          go_ret2
          exact ⟨by rw [HF.out]; rfl, HB.out.2⟩
end Go.Proofs.Ytnkkompmdngkgaa.S
