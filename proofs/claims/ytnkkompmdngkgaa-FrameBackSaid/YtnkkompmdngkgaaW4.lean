/-
  Contracts of the document's own put and check.
-/
import Derived.Test.YtnkkompmdngkgaaW3
namespace Go.Proofs.Ytnkkompmdngkgaa.F
open Go.RowKit
set_option maxHeartbeats 400000 in
theorem sum_any (s : ByteArray) (w : World) (hs : s.size + 2 ≤ maxLen) : Calls Try.prog 15 #[.string s] w fun e w' => e = .returned (.string ⟨(Crc.put s.data.toList).toArray⟩) ∧ Below w.heap.size w w' := by
  have hs1 : s.size ≤ maxLen := by omega
  have hs2 : s.size + 2 ≤ 9223372036854775807 := by unfold maxLen at hs; omega
  have hc := Crc.sum_lt s.data.toList
  have HP := Lib.hid (bytes_append s (Crc.wire (Crc.sum s.data.toList)))
  have hl : (Crc.wire (Crc.sum s.data.toList)).length = 2 := rfl
  have ha := and255 _ hc
  have hcv := conv_new w (Crc.wire (Crc.sum s.data.toList)) _ (wire_cells _ hc)
  have eb : ((Crc.sum s.data.toList : Nat) : Int) % 256 = ((Crc.sum s.data.toList % 256 : Nat) : Int) := by omega
  rw [hl, eb] at hcv
  clear eb
  have hlo : Crc.sum s.data.toList % 256 < 256 := by omega
  generalize Crc.sum s.data.toList % 256 = lo at *
  go_enter Try.func15, Try.ntmps15
  go_wp2_with (go_at_call 26; refine (ref_any _ _ hs1).mono ?_; rintro e w1 ⟨rfl, rfl⟩)
  go_ret
  exact ⟨ret_str HP.out, (Below.refl _ w).alloc (Nat.le_refl _) _⟩
theorem sum_list (l : List UInt8) (w : World) (h : (ByteArray.mk l.toArray).size + 2 ≤ maxLen) : Calls Try.prog 15 #[.string ⟨l.toArray⟩] w fun e w' => e = .returned (.string ⟨(Crc.put l).toArray⟩) ∧ Below w.heap.size w w' := by
  have := sum_any ⟨l.toArray⟩ w h
  simpa using this
set_option maxHeartbeats 400000 in
theorem unsum_long (s : ByteArray) (w : World) (hs : s.size ≤ maxLen) (h2 : 2 ≤ s.size) : Calls Try.prog 30 #[.string s] w fun e w' => e = .returned (.tuple #[.string ⟨(Crc.check s.data.toList).1.toArray⟩, .int .i64 (Crc.check s.data.toList).2]) ∧ Below w.heap.size w w' := by
  obtain ⟨b, t, e1, e2, e3, _, e5⟩ := split_two s h2
  have hs1 : s.size ≤ 9223372036854775807 := by unfold maxLen at hs; omega
  have hz1 : (ByteArray.mk b.toArray).size + 2 ≤ maxLen := by unfold maxLen; simp [ByteArray.size]; omega
  have hck := Crc.check_split b t e2
  have hp := Crc.put_iff b t
  by_cases hw : t = Crc.wire (Crc.sum b)
  · have hqq : (Crc.put b == s.toList) = true := by rw [ByteArray.toList_eq, e1]; simpa using hp.2 hw
    rw [e1, hck, if_pos hw]
    clear e1 e2 e5 hck hp hw
    go_enter Try.func30, Try.ntmps30
    go_wp2_with (go_at_call 15; refine (sum_list _ _ hz1).mono ?_; rintro e w1 ⟨rfl, hb1⟩)
    go_ret2
    exact ⟨ret_pair e3, hb1⟩
  · have hqq : (Crc.put b == s.toList) = false := by rw [ByteArray.toList_eq, e1]; simpa using fun h => hw (hp.1 h)
    rw [e1, hck, if_neg hw]
    clear e1 e2 e5 hck hp hw
    go_enter Try.func30, Try.ntmps30
    go_wp2_with (go_at_call 15; refine (sum_list _ _ hz1).mono ?_; rintro e w1 ⟨rfl, hb1⟩)
    go_ret2
    exact ⟨rfl, hb1⟩
set_option maxHeartbeats 400000 in
theorem unsum_small (s : ByteArray) (w : World) (h2 : s.size < 2) : Calls Try.prog 30 #[.string s] w fun e w' => e = .returned (.tuple #[.string ⟨(Crc.check s.data.toList).1.toArray⟩, .int .i64 (Crc.check s.data.toList).2]) ∧ Below w.heap.size w w' := by
  rw [Crc.check_short _ (by simpa using h2)]
  go_enter Try.func30, Try.ntmps30
  go_wp2
  go_ret2
  exact ⟨rfl, Below.refl _ _⟩
theorem unsum_any (s : ByteArray) (w : World) (hs : s.size ≤ maxLen) : Calls Try.prog 30 #[.string s] w fun e w' => e = .returned (.tuple #[.string ⟨(Crc.check s.data.toList).1.toArray⟩, .int .i64 (Crc.check s.data.toList).2]) ∧ Below w.heap.size w w' := by
  by_cases h : s.size < 2
  · exact unsum_small s w h
  · exact unsum_long s w hs (by omega)
theorem unsum_list (l : List UInt8) (w : World) (h : (ByteArray.mk l.toArray).size ≤ maxLen) : Calls Try.prog 30 #[.string ⟨l.toArray⟩] w fun e w' => e = .returned (.tuple #[.string ⟨(Crc.check l).1.toArray⟩, .int .i64 (Crc.check l).2]) ∧ Below w.heap.size w w' := by
  have := unsum_any ⟨l.toArray⟩ w h
  simpa using this
end Go.Proofs.Ytnkkompmdngkgaa.F
