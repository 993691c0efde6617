/-
  Contracts over strings: a sum's two bytes, put, checked, and the document's own of the same.
-/
import Derived.Test.YtnkkompmdngkgaaW2
import Derived.Test.YtnkkompmdngkgaaClone
import Derived.Laws.IdiomStrings
import Derived.Laws.Concat
import Derived.Lib.Strings
import Derived.Deep.QuietTactic
import Derived.BigQuiet
namespace Go.Proofs.Ytnkkompmdngkgaa.F
open Go.RowKit
theorem wire_cells (n : Nat) (h : n < 65536) : (#[Value.int .u8 ((n : Int) % 256), Value.int .u8 ((n : Int) / 256)] : Array Value) = ((Crc.wire n).map fun b => Value.int .u8 (b.toNat : Int)).toArray := by
  have h1 : (UInt8.ofNat (n / 256)).toNat = n / 256 := by simp; omega
  simp only [Crc.wire, List.map_cons, List.map_nil, h1]
  simp
set_option maxHeartbeats 400000 in
theorem wire_any (n : Nat) (w : World) (hn : n < 65536) : Calls Try.prog 37 #[.int .i64 n] w fun e w' => e = .returned (.string ⟨(Crc.wire n).toArray⟩) ∧ Below w.heap.size w w' := by
  have hc := conv_new w (Crc.wire n) _ (wire_cells n hn)
  have hl : (Crc.wire n).length = 2 := rfl
  rw [hl] at hc
  clear hl
  go_enter Try.func37, Try.ntmps37
  go_wp2
  go_ret
  exact ⟨rfl, (Below.refl _ w).alloc (Nat.le_refl _) _⟩
set_option maxHeartbeats 400000 in
theorem put_any (s : ByteArray) (w : World) (hs : s.size + 2 ≤ maxLen) : Calls Try.prog 23 #[.string s] w fun e w' => e = .returned (.string ⟨(Crc.put s.data.toList).toArray⟩) ∧ Below w.heap.size w w' := by
  have hs1 : s.size ≤ maxLen := by omega
  have hs2 : s.size + 2 ≤ 9223372036854775807 := by unfold maxLen at hs; omega
  have hc := Crc.sum_lt s.data.toList
  have hl : (Crc.wire (Crc.sum s.data.toList)).length = 2 := rfl
  have HP := Lib.hid (bytes_append s (Crc.wire (Crc.sum s.data.toList)))
  go_enter Try.func23, Try.ntmps23
  go_wp2_with (first | (go_at_call 38; refine (of_any _ _ hs1).mono ?_; rintro e w1 ⟨rfl, hb⟩) | (go_at_call 37; refine (wire_any _ _ hc).mono ?_; rintro e w2 ⟨rfl, hb2⟩))
  go_ret
  exact ⟨ret_str HP.out, bel2 hb hb2⟩
/-- A text of two bytes or more is what stands ahead of its last two, and these. -/
theorem split_two (s : ByteArray) (h : 2 ≤ s.size) : ∃ b t : List UInt8, s.data.toList = b ++ t ∧ t.length = 2 ∧ s.extract 0 (s.size - 2) = ⟨b.toArray⟩ ∧ s.extract (s.size - 2) s.size = ⟨t.toArray⟩ ∧ b.length + 2 = s.size := by
  refine ⟨s.data.toList.take (s.size - 2), s.data.toList.drop (s.size - 2), (List.take_append_drop _ _).symm, ?_, ?_, ?_, ?_⟩
  · simp; omega
  · apply ByteArray.ext; apply Array.toList_inj.1; simp [ByteArray.data_extract, List.extract]
  · apply ByteArray.ext; apply Array.toList_inj.1; simp [ByteArray.data_extract, List.extract]
    exact List.take_of_length_le (by simp)
  · simp; omega
theorem of_list (l : List UInt8) (w : World) (h : (ByteArray.mk l.toArray).size ≤ maxLen) : Calls Try.prog 38 #[.string ⟨l.toArray⟩] w fun e w' => e = .returned (.int .i64 (Crc.sum l)) ∧ Below w.heap.size w w' := by
  have := of_any ⟨l.toArray⟩ w h
  simpa using this
set_option maxHeartbeats 400000 in
theorem check_long (s : ByteArray) (w : World) (hs : s.size ≤ 281474976710656) (h2 : 2 ≤ s.size) : Calls Try.prog 27 #[.string s] w fun e w' => e = .returned (.tuple #[.string ⟨(Crc.check s.data.toList).1.toArray⟩, .int .i64 (Crc.check s.data.toList).2]) ∧ Below w.heap.size w w' := by
  obtain ⟨b, t, e1, e2, e3, e4, e5⟩ := split_two s h2
  have hck := Crc.check_split b t e2
  rw [e1, hck]
  have E2 := Lib.hid e2
  have E5 := Lib.hid e5
  clear e1 e2 e5 hck
  have hz1 : (ByteArray.mk b.toArray).size ≤ maxLen := by have := E5.out; unfold maxLen; simp [ByteArray.size]; omega
  have hz2 : (ByteArray.mk b.toArray).size ≤ 281474976710656 := by have := E5.out; simp [ByteArray.size]; omega
  have hc := Crc.sum_lt b
  by_cases hw : t = Crc.wire (Crc.sum b)
  · rw [if_pos hw]
    subst hw
    go_enter Try.func27, Try.ntmps27
    go_wp2_with fail
    go_quiet (fail)
    obtain ⟨wq, hwq⟩ : ∃ wq, wq = w.drewN nq := ⟨_, rfl⟩
    have hb : Below w.heap.size w wq := hwq ▸ below_drewN (Below.refl _ _) nq
    rw [← hwq]
    clear hwq
    go_wp2_with (first | (go_at_call 38; refine (of_list _ _ hz1).mono ?_; rintro e w1 ⟨rfl, hb1⟩) | (go_at_call 37; refine (wire_any _ _ hc).mono ?_; rintro e w2 ⟨rfl, hb2⟩) | (go_at_call 31; refine (clone_any _ _ hz2).mono ?_; rintro e w3 ⟨rfl, hb3⟩))
    go_ret2
    exact ⟨rfl, bel2 (bel2 (bel2 hb hb1) hb2) hb3⟩
  · rw [if_neg hw]
    have hne : (t == Crc.wire (Crc.sum b)) = false := by simpa using hw
    go_enter Try.func27, Try.ntmps27
    go_wp2_with fail
    go_quiet (fail)
    obtain ⟨wq, hwq⟩ : ∃ wq, wq = w.drewN nq := ⟨_, rfl⟩
    have hb : Below w.heap.size w wq := hwq ▸ below_drewN (Below.refl _ _) nq
    rw [← hwq]
    clear hwq
    go_wp2_with (first | (go_at_call 38; refine (of_list _ _ hz1).mono ?_; rintro e w1 ⟨rfl, hb1⟩) | (go_at_call 37; refine (wire_any _ _ hc).mono ?_; rintro e w2 ⟨rfl, hb2⟩))
    go_ret2
    exact ⟨rfl, bel2 (bel2 hb hb1) hb2⟩
set_option maxHeartbeats 400000 in
theorem check_small (s : ByteArray) (w : World) (h2 : s.size < 2) : Calls Try.prog 27 #[.string s] w fun e w' => e = .returned (.tuple #[.string ⟨(Crc.check s.data.toList).1.toArray⟩, .int .i64 (Crc.check s.data.toList).2]) ∧ Below w.heap.size w w' := by
  rw [Crc.check_short _ (by simpa using h2)]
  go_enter Try.func27, Try.ntmps27
  go_wp2
  go_ret2
  exact ⟨rfl, Below.refl _ _⟩
theorem check_any (s : ByteArray) (w : World) (hs : s.size ≤ 281474976710656) : Calls Try.prog 27 #[.string s] w fun e w' => e = .returned (.tuple #[.string ⟨(Crc.check s.data.toList).1.toArray⟩, .int .i64 (Crc.check s.data.toList).2]) ∧ Below w.heap.size w w' := by
  by_cases h : s.size < 2
  · exact check_small s w h
  · exact check_long s w hs (by omega)
theorem check_list (l : List UInt8) (w : World) (hs : (ByteArray.mk l.toArray).size ≤ 281474976710656) : Calls Try.prog 27 #[.string ⟨l.toArray⟩] w fun e w' => e = .returned (.tuple #[.string ⟨(Crc.check l).1.toArray⟩, .int .i64 (Crc.check l).2]) ∧ Below w.heap.size w w' := by
  have := check_any ⟨l.toArray⟩ w hs
  simpa using this
theorem put_list (l : List UInt8) (w : World) (h : (ByteArray.mk l.toArray).size + 2 ≤ maxLen) : Calls Try.prog 23 #[.string ⟨l.toArray⟩] w fun e w' => e = .returned (.string ⟨(Crc.put l).toArray⟩) ∧ Below w.heap.size w w' := by
  have := put_any ⟨l.toArray⟩ w h
  simpa using this
end Go.Proofs.Ytnkkompmdngkgaa.F
