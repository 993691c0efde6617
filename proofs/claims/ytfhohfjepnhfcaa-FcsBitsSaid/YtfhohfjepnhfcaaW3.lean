/-
  Contracts over strings: a sum's two bytes, put, checked, and the document's own of the same.
-/
import Derived.Test.YtfhohfjepnhfcaaW2
import Derived.Laws.IdiomStrings
import Derived.Laws.Concat
import Derived.Lib.Strings
import Derived.Deep.QuietTactic
import Derived.BigQuiet
namespace Go.Proofs.Ytfhohfjepnhfcaa
open Go.RowKit
/-- A new slice of bytes as a string. -/
theorem conv_new (w : World) (l : List UInt8) (cells : Array Value) (h : cells = (l.map fun b => Value.int .u8 (b.toNat : Int)).toArray) :
    (convert 33 9 (.slice (some ⟨w.heap.size, 0, none⟩) l.length l.length)).run Try.prog (w.alloc (.cells cells 5)) = .ok (.string ⟨l.toArray⟩) (w.alloc (.cells cells 5)) := by
  refine run_convert_bytes_back _ 33 9 5 _ _ l Try.underlying33 Try.underlying5 Try.underlying9 ?_
  intro j hj
  have e : (⟨w.heap.size, 0, none⟩ : Addr).add j = ⟨w.heap.size, j, none⟩ := by unfold Addr.add; split <;> simp_all
  rw [e, World.cell?_alloc_mark, h]
  simp [hj]
theorem wire_cells (n : Nat) (h : n < 65536) : (#[Value.int .u8 ((n : Int) % 256), Value.int .u8 ((n : Int) / 256)] : Array Value) = ((Crc.wire n).map fun b => Value.int .u8 (b.toNat : Int)).toArray := by
  have h1 : (UInt8.ofNat (n / 256)).toNat = n / 256 := by simp; omega
  simp only [Crc.wire, List.map_cons, List.map_nil, h1]
  simp
set_option maxHeartbeats 400000 in
theorem wire_any (n : Nat) (w : World) (hn : n < 65536) : Calls Try.prog 16 #[.int .i64 n] w fun e w' => e = .returned (.string ⟨(Crc.wire n).toArray⟩) ∧ Below w.heap.size w w' := by
  have hc := conv_new w (Crc.wire n) _ (wire_cells n hn)
  have hl : (Crc.wire n).length = 2 := rfl
  rw [hl] at hc
  clear hl
  go_enter Try.func16, Try.ntmps16
  go_wp2
  go_ret
  exact ⟨rfl, (Below.refl _ w).alloc (Nat.le_refl _) _⟩
theorem bytes_append (s : ByteArray) (l : List UInt8) : s ++ ByteArray.mk l.toArray = ⟨(s.data.toList ++ l).toArray⟩ := by
  apply ByteArray.ext
  simp [ByteArray.data_append]
theorem ret_str {a b : ByteArray} (h : a = b) : Ending.returned (.string a) = .returned (.string b) := by rw [h]
theorem bel2 {a b c : World} (h : Below a.heap.size a b) (k : Below b.heap.size b c) : Below a.heap.size a c := h.trans (k.mono h.size)
set_option maxHeartbeats 400000 in
theorem put_any (s : ByteArray) (w : World) (hs : s.size + 2 ≤ maxLen) : Calls Try.prog 12 #[.string s] w fun e w' => e = .returned (.string ⟨(Crc.put s.data.toList).toArray⟩) ∧ Below w.heap.size w w' := by
  have hs1 : s.size ≤ maxLen := by omega
  have hs2 : s.size + 2 ≤ 9223372036854775807 := by unfold maxLen at hs; omega
  have hc := Crc.sum_lt s.data.toList
  have hl : (Crc.wire (Crc.sum s.data.toList)).length = 2 := rfl
  have HP := Lib.hid (bytes_append s (Crc.wire (Crc.sum s.data.toList)))
  go_enter Try.func12, Try.ntmps12
  go_wp2_with (first | (go_at_call 10; refine (of_any _ _ hs1).mono ?_; rintro e w1 ⟨rfl, hb⟩) | (go_at_call 16; refine (wire_any _ _ hc).mono ?_; rintro e w2 ⟨rfl, hb2⟩))
  go_ret
  exact ⟨ret_str HP.out, bel2 hb hb2⟩
set_option maxHeartbeats 400000 in
theorem clone_any (s : ByteArray) (w : World) (hs : s.size ≤ 281474976710656) : Calls Try.prog 17 #[.string s] w fun e w' => e = .returned (.string s) ∧ Below w.heap.size w w' := by
  go_enter Try.func17, Try.ntmps17
  go_wp2_with (go_at_call 19; refine (Try.stringslite_Clone _ _ hs).mono ?_; rintro e w1 ⟨rfl, hb⟩)
  go_ret
  exact ⟨rfl, hb⟩
/-- A text of two bytes or more is what stands ahead of its last two, and these. -/
theorem split_two (s : ByteArray) (h : 2 ≤ s.size) : ∃ b t : List UInt8, s.data.toList = b ++ t ∧ t.length = 2 ∧ s.extract 0 (s.size - 2) = ⟨b.toArray⟩ ∧ s.extract (s.size - 2) s.size = ⟨t.toArray⟩ ∧ b.length + 2 = s.size := by
  refine ⟨s.data.toList.take (s.size - 2), s.data.toList.drop (s.size - 2), (List.take_append_drop _ _).symm, ?_, ?_, ?_, ?_⟩
  · simp; omega
  · apply ByteArray.ext; apply Array.toList_inj.1; simp [ByteArray.data_extract, List.extract]
  · apply ByteArray.ext; apply Array.toList_inj.1; simp [ByteArray.data_extract, List.extract]
    exact List.take_of_length_le (by simp)
  · simp; omega
theorem of_list (l : List UInt8) (w : World) (h : (ByteArray.mk l.toArray).size ≤ maxLen) : Calls Try.prog 10 #[.string ⟨l.toArray⟩] w fun e w' => e = .returned (.int .i64 (Crc.sum l)) ∧ Below w.heap.size w w' := by
  have := of_any ⟨l.toArray⟩ w h
  simpa using this
set_option maxHeartbeats 400000 in
theorem check_long (s : ByteArray) (w : World) (hs : s.size ≤ 281474976710656) (h2 : 2 ≤ s.size) : Calls Try.prog 8 #[.string s] w fun e w' => e = .returned (.tuple #[.string ⟨(Crc.check s.data.toList).1.toArray⟩, .int .i64 (Crc.check s.data.toList).2]) ∧ Below w.heap.size w w' := by
  obtain ⟨b, t, e1, e2, e3, e4, e5⟩ := split_two s h2
  have hck := Crc.check_split b t e2
  rw [e1, hck]
  have E2 := Lib.hid e2
  have E5 := Lib.hid e5
  clear e1 e2 e5 hck
  have hz1 : (ByteArray.mk b.toArray).size ≤ maxLen := by have := E5.out; unfold maxLen; simp [ByteArray.size]; omega
  have hz2 : (ByteArray.mk b.toArray).size ≤ 281474976710656 := by have := E5.out; simp [ByteArray.size]; omega
  have hc := Crc.sum_lt b
  by_cases hw : t = Crc.wire (Crc.sum b)
  · rw [if_pos hw]
    subst hw
    go_enter Try.func8, Try.ntmps8
    go_wp2_with fail
    go_quiet (fail)
    obtain ⟨wq, hwq⟩ : ∃ wq, wq = w.drewN nq := ⟨_, rfl⟩
    have hb : Below w.heap.size w wq := hwq ▸ below_drewN (Below.refl _ _) nq
    rw [← hwq]
    clear hwq
    go_wp2_with (first | (go_at_call 10; refine (of_list _ _ hz1).mono ?_; rintro e w1 ⟨rfl, hb1⟩) | (go_at_call 16; refine (wire_any _ _ hc).mono ?_; rintro e w2 ⟨rfl, hb2⟩) | (go_at_call 17; refine (clone_any _ _ hz2).mono ?_; rintro e w3 ⟨rfl, hb3⟩))
    go_ret2
    exact ⟨rfl, bel2 (bel2 (bel2 hb hb1) hb2) hb3⟩
  · rw [if_neg hw]
    have hne : (t == Crc.wire (Crc.sum b)) = false := by simpa using hw
    go_enter Try.func8, Try.ntmps8
    go_wp2_with fail
    go_quiet (fail)
    obtain ⟨wq, hwq⟩ : ∃ wq, wq = w.drewN nq := ⟨_, rfl⟩
    have hb : Below w.heap.size w wq := hwq ▸ below_drewN (Below.refl _ _) nq
    rw [← hwq]
    clear hwq
    go_wp2_with (first | (go_at_call 10; refine (of_list _ _ hz1).mono ?_; rintro e w1 ⟨rfl, hb1⟩) | (go_at_call 16; refine (wire_any _ _ hc).mono ?_; rintro e w2 ⟨rfl, hb2⟩))
    go_ret2
    exact ⟨rfl, bel2 (bel2 hb hb1) hb2⟩
set_option maxHeartbeats 400000 in
theorem check_small (s : ByteArray) (w : World) (h2 : s.size < 2) : Calls Try.prog 8 #[.string s] w fun e w' => e = .returned (.tuple #[.string ⟨(Crc.check s.data.toList).1.toArray⟩, .int .i64 (Crc.check s.data.toList).2]) ∧ Below w.heap.size w w' := by
  rw [Crc.check_short _ (by simpa using h2)]
  go_enter Try.func8, Try.ntmps8
  go_wp2
  go_ret2
  exact ⟨rfl, Below.refl _ _⟩
theorem check_any (s : ByteArray) (w : World) (hs : s.size ≤ 281474976710656) : Calls Try.prog 8 #[.string s] w fun e w' => e = .returned (.tuple #[.string ⟨(Crc.check s.data.toList).1.toArray⟩, .int .i64 (Crc.check s.data.toList).2]) ∧ Below w.heap.size w w' := by
  by_cases h : s.size < 2
  · exact check_small s w h
  · exact check_long s w hs (by omega)
theorem check_list (l : List UInt8) (w : World) (hs : (ByteArray.mk l.toArray).size ≤ 281474976710656) : Calls Try.prog 8 #[.string ⟨l.toArray⟩] w fun e w' => e = .returned (.tuple #[.string ⟨(Crc.check l).1.toArray⟩, .int .i64 (Crc.check l).2]) ∧ Below w.heap.size w w' := by
  have := check_any ⟨l.toArray⟩ w hs
  simpa using this
theorem put_list (l : List UInt8) (w : World) (h : (ByteArray.mk l.toArray).size + 2 ≤ maxLen) : Calls Try.prog 12 #[.string ⟨l.toArray⟩] w fun e w' => e = .returned (.string ⟨(Crc.put l).toArray⟩) ∧ Below w.heap.size w w' := by
  have := put_any ⟨l.toArray⟩ w h
  simpa using this
/-! What every program answers that is one. -/
theorem awake1 : Crc.check [97] = ([], 100) := by decide +kernel
theorem awake2 : Crc.check [97, 98, 99] = ([], 101) := by decide +kernel
theorem awake4 : Crc.sum [49, 50, 51, 52, 53, 54, 55, 56, 57] = 36974 := by decide +kernel
set_option maxHeartbeats 400000 in
theorem awake_any (w : World) : Calls Try.prog 15 #[] w fun e w' => e = .returned (.bool true) ∧ Below w.heap.size w w' := by
  have c1 := fun w => check_list [97] w (by decide)
  have c2 := fun w => check_list [97, 98, 99] w (by decide)
  have c3 := fun w => put_list [97, 98, 99] w (by decide)
  have c4 := fun w => check_list (Crc.put [97, 98, 99]) w (by decide)
  have c5 := fun w => of_list [49, 50, 51, 52, 53, 54, 55, 56, 57] w (by decide)
  rw [awake1] at c1
  rw [awake2] at c2
  rw [Crc.check_put] at c4
  rw [awake4] at c5
  have C1 := Lib.hid c1
  have C2 := Lib.hid c2
  have C3 := Lib.hid c3
  have C4 := Lib.hid c4
  have C5 := Lib.hid c5
  clear c1 c2 c3 c4 c5
  go_enter Try.func15, Try.ntmps15
  go_wp2_with fail
  refine (C1.out _).mono ?_
  rintro e w1 ⟨rfl, hb1⟩
  go_wp2_with fail
  refine (C2.out _).mono ?_
  rintro e w2 ⟨rfl, hb2⟩
  go_wp2_with fail
  refine (C3.out _).mono ?_
  rintro e w3 ⟨rfl, hb3⟩
  go_wp2_with fail
  refine (C4.out _).mono ?_
  rintro e w4 ⟨rfl, hb4⟩
  go_wp2_with fail
  refine (C5.out _).mono ?_
  rintro e w5 ⟨rfl, hb5⟩
  go_wp2_with (go_at_call 14; refine (num_any _ _).mono ?_; rintro e w6 ⟨rfl, rfl⟩)
  go_ret
  exact ⟨rfl, bel2 (bel2 (bel2 (bel2 hb1 hb2) hb3) hb4) hb5⟩
end Go.Proofs.Ytfhohfjepnhfcaa
