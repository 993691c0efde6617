/-
  Contract of the program's Put.
-/
import Derived.Test.YtnkkompmdngkgaaV1
import Derived.Laws.IdiomStrings
import Derived.Lib.Strings
namespace Go.Proofs.Ytnkkompmdngkgaa.S
open Go.RowKit
theorem bc_two (l : List UInt8) (b : UInt8) : Lib.byteCells (l ++ [125, b]) = Lib.byteCells l ++ [.int .u8 125] ++ [.int .u8 (b.toNat : Int)] := by simp [Lib.byteCells]
theorem turn_int (b : UInt8) : bits BinOp.xor IntKind.u8 (b.toNat : Int) 32 = ((b ^^^ 32).toNat : Int) := by
  have := u8_xor_nat b.toNat 32 b.toNat_lt (by omega)
  rw [UInt8.toNat_xor]
  exact this
set_option maxHeartbeats 400000 in
theorem put_any (s : ByteArray) (z : Int) (w : World) (hs : s.size ≤ 268435456) : Calls Try.prog 22 #[.string s, .int .i64 z] w fun e w' => e = .returned (.string ⟨(Stf.put z s.data.toList).toArray⟩) ∧ Below w.heap.size w w' := by
  go_enter Try.func22, Try.ntmps22
  go_wp2_with fail
  refine (Try.bldGrow w.heap.size w.heap.size s.size _ (Nat.le_refl _) (heap_alloc_new _ _) (by simp) (by omega)).mono ?_
  rintro e w0 ⟨rfl, hB, hb⟩
  have HB := Lib.hid hB
  have Hb := Lib.hid (Below.trans ((Below.refl w.heap.size w).alloc (Nat.le_refl _) _) hb)
  clear hB hb
  go_wp2_with fail
  go_loopw [13] (fun i wr => ∃ k : Nat, k ≤ s.size ∧ i = .int .i64 k ∧ Lib.BuilderAt 60 5 w.heap.size w.heap.size (.pointer (some ⟨w.heap.size, 0, none⟩)) (Lib.byteCells (Stf.put z (s.data.toList.take k))) wr ∧ Below w.heap.size w wr) (fun i _ => s.size - (intOf i).toNat)
  case atStart => exact ⟨0, by omega, rfl, HB.out, Hb.out⟩
  case round =>
    obtain ⟨k, hk, rfl, hB, hb⟩ := hrel
    have HB := Lib.hid hB
    have Hb := Lib.hid hb
    clear hB hb
    have HL := (Stf.put_length z (s.data.toList.take k)).2
    have HL2 : (s.data.toList.take k).length ≤ k := List.length_take_le _ _
    by_cases hlt : k < s.size
    · have M := may_any z s[k]
      have HT := Lib.hid (take_snoc s k hlt)
      have HP := Lib.hid (Stf.put_snoc z (s.data.toList.take k) s[k])
      cases hm : Stf.mns z s[k]
      · rw [hm] at M
        have M := Lib.hid M
        have HO : Hid (Stf.one z s[k] = [s[k]]) := Lib.hid (if_neg (by simp [hm]))
        clear hm
        go_wp2_with fail
        refine (M.out _).mono ?_
        rintro e w1 ⟨rfl, rfl⟩
        go_wp2_with fail
        refine (Try.bldByte w.heap.size w.heap.size _ _ _ (Or.inr HB.out) (by rw [bc_length]; omega) Hb.out.size).mono ?_
        rintro e w2 ⟨rfl, hB2, hb2⟩
        have HB2 := Lib.hid hB2
        have Hb2 := Lib.hid hb2
        clear hB2 hb2
        go_wp2_with fail
        go_roundw
        case rel => exact ⟨k + 1, by omega, by go_num, by rw [HT.out, HP.out, HO.out, ← bc_snoc]; exact HB2.out, Hb.out.trans Hb2.out⟩
        case measure => simp [intOf]; omega
      · rw [hm] at M
        have M := Lib.hid M
        have HO : Hid (Stf.one z s[k] = [125, s[k] ^^^ 32]) := Lib.hid (if_pos hm)
        have hx := turn_int s[k]
        clear hm
        go_wp2_with fail
        refine (M.out _).mono ?_
        rintro e w1 ⟨rfl, rfl⟩
        go_wp2_with fail
        refine (Try.bldByte w.heap.size w.heap.size _ _ _ (Or.inr HB.out) (by rw [bc_length]; omega) Hb.out.size).mono ?_
        rintro e w2 ⟨rfl, hB2, hb2⟩
        have HB2 := Lib.hid hB2
        have Hb2 := Lib.hid (Hb.out.trans hb2)
        clear hB2 hb2
        go_wp2_with fail
        refine (Try.bldByte w.heap.size w.heap.size _ _ _ (Or.inr HB2.out) (by rw [List.length_append, bc_length]; simp; omega) Hb2.out.size).mono ?_
        rintro e w3 ⟨rfl, hB3, hb3⟩
        have HB3 := Lib.hid hB3
        have Hb3 := Lib.hid (Hb2.out.trans hb3)
        clear hB3 hb3
        go_wp2_with fail
        go_roundw
        case rel => exact ⟨k + 1, by omega, by go_num, by rw [HT.out, HP.out, HO.out, bc_two]; exact HB3.out, Hb3.out⟩
        case measure => simp [intOf]; omega
    · obtain rfl : k = s.size := by omega
      go_wp2_with fail
      refine (Try.bldText w.heap.size w.heap.size _ _ (Or.inr HB.out) Hb.out.size).mono ?_
      rintro e w2 ⟨rfl, hb2⟩
      go_wp2_with fail
      go_ret
      exact ⟨ret_str (by rw [List.take_of_length_le (by simp)]), Hb.out.trans hb2⟩
end Go.Proofs.Ytnkkompmdngkgaa.S
