/-
  Contract of the program's Put of a frame.
-/
import Derived.Test.YtnkkompmdngkgaaR1
import Derived.Test.YtnkkompmdngkgaaVL
import Derived.Test.YtnkkompmdngkgaaW4
import Derived.Deep.RegionHeld3
namespace Go.Proofs.Ytnkkompmdngkgaa.R
open Go.RowKit
/-- The first box of a call holds a frame; what was there before the call is as it was. -/
theorem box_kept {w a b : World} {x y : Value} (h : a.cell? ⟨w.heap.size, 0, none⟩ = some x ∧ a.cell? ⟨w.heap.size, 1, none⟩ = some y ∧ w.heap.size < a.heap.size ∧ Below w.heap.size w a) (k : Below a.heap.size a b) :
    b.cell? ⟨w.heap.size, 0, none⟩ = some x ∧ b.cell? ⟨w.heap.size, 1, none⟩ = some y ∧ w.heap.size < b.heap.size ∧ Below w.heap.size w b := by
  obtain ⟨h1, h2, h3, h4⟩ := h
  exact ⟨(k.cell (p := ⟨w.heap.size, 0, none⟩) h3).trans h1, (k.cell (p := ⟨w.heap.size, 1, none⟩) h3).trans h2, Nat.lt_of_lt_of_le h3 k.size, h4.trans (k.mono (Nat.le_of_lt h3))⟩
theorem box_drew {w a : World} {x y : Value} (h : a.cell? ⟨w.heap.size, 0, none⟩ = some x ∧ a.cell? ⟨w.heap.size, 1, none⟩ = some y ∧ w.heap.size < a.heap.size ∧ Below w.heap.size w a) :
    a.drew.cell? ⟨w.heap.size, 0, none⟩ = some x ∧ a.drew.cell? ⟨w.heap.size, 1, none⟩ = some y ∧ w.heap.size < a.drew.heap.size ∧ Below w.heap.size w a.drew := ⟨h.1, h.2.1, h.2.2.1, h.2.2.2.drew⟩
/-- One text behind the other. -/
abbrev Sums (a b c : List UInt8) : Prop := ∀ W : World, (Op.stringOp .add { data := a.toArray } { data := b.toArray }).run Try.prog W = .ok (.string { data := c.toArray }) W
theorem sums (a b : List UInt8) (ha : a.length ≤ 1000000) (hb : b.length ≤ 1000000) : Sums a b (a ++ b) := fun W => run_string_add_lists W a b (by omega) (by omega)
set_option maxHeartbeats 800000 in
theorem put_good_walk (z : Int) (l T A B X Y Z U : List UInt8) (m : Int) (w : World)
    (J : Hid (∀ w, Calls Try.prog 20 #[.agg #[.int .i64 z, .string ⟨l.toArray⟩]] w fun e w' => e = .returned (.int .i64 0) ∧ Below w.heap.size w w'))
    (F : Hid (∀ w, Calls Try.prog 21 #[.int .i64 z] w fun e w' => e = .returned (.string ⟨T.toArray⟩) ∧ Below w.heap.size w w'))
    (P : Hid (∀ w, Calls Try.prog 23 #[.string ⟨B.toArray⟩] w fun e w' => e = .returned (.string ⟨X.toArray⟩) ∧ Below w.heap.size w w'))
    (S : Hid (∀ w, Calls Try.prog 22 #[.string ⟨X.toArray⟩, .int .i64 m] w fun e w' => e = .returned (.string ⟨Y.toArray⟩) ∧ Below w.heap.size w w'))
    (r1 : Sums [255, 3] T A) (r2 : Sums A l B) (r3 : Sums [126] Y Z) (r4 : Sums Z [126] U) :
    Calls Try.prog 10 #[.agg #[.int .i64 z, .string ⟨l.toArray⟩], .int .i64 m] w fun e w' => e = .returned (.tuple #[.string { data := U.toArray }, .int .i64 0]) ∧ Below w.heap.size w w' := by
  unfold Sums at r1 r2 r3 r4
  go_enter Try.func10, Try.ntmps10
  go_wp2_with fail
  refine (J.out _).mono ?_
  rintro e w1 ⟨rfl, hb1⟩
  have HS := Lib.hid (box_kept (w := w) (x := .int .i64 z) (y := .string ⟨l.toArray⟩) ⟨by simp, by simp, by simp, (Below.refl _ _).alloc (Nat.le_refl _) _⟩ hb1)
  clear hb1
  go_wp2_with fail
  go_region_held3 (fun a => a.cell? ⟨w.heap.size, 0, none⟩ = some (.int .i64 z) ∧ a.cell? ⟨w.heap.size, 1, none⟩ = some (.string ⟨l.toArray⟩) ∧ w.heap.size < a.heap.size ∧ Below w.heap.size w a) (first | exact box_drew HS.out | exact box_kept (by assumption) hb2)
    (first | (go_at_call 21; refine (F.out _).mono ?_; rintro e w2 ⟨rfl, hb2⟩))
  rename_i hH
  have HB := Lib.hid hH
  clear hH hb2
  go_wp2_with fail
  refine (P.out _).mono ?_
  rintro e w3 ⟨rfl, hb3⟩
  have HB2 := Lib.hid (box_kept HB.out hb3)
  clear hb3
  go_wp2_with fail
  refine (S.out _).mono ?_
  rintro e w4 ⟨rfl, hb4⟩
  have HB3 := Lib.hid (box_kept HB2.out hb4)
  clear hb4
  go_wp2_with fail
  go_ret2
  exact ⟨rfl, HB3.out.2.2.2⟩
theorem put_good_any (n : Nat) (l : List UInt8) (m : Int) (w : World) (hg : Frm.good n = true) (hl : l.length ≤ 2048) :
    Calls Try.prog 10 #[.agg #[.int .i64 n, .string ⟨l.toArray⟩], .int .i64 m] w fun e w' => e = .returned (.tuple #[.string ⟨([126] ++ Frm.wire m n l ++ [126]).toArray⟩, .int .i64 0]) ∧ Below w.heap.size w w' := by
  have hw := Frm.wire_length m n l
  have hb := Frm.body_length n l
  have ht : (Frm.two n).length = 2 := rfl
  obtain ⟨k, e, _, hk, _, _⟩ := Frm.good_nat _ hg
  have hz : n < 65536 := by omega
  have J := fun w => judge_any n ⟨l.toArray⟩ w (by rw [sz]; unfold maxLen; omega)
  have hcode : Frm.code n (ByteArray.mk l.toArray).size = 0 := by rw [sz]; exact Frm.code_good _ _ hg hl
  rw [hcode] at J
  exact put_good_walk n l (Frm.two n) ([255, 3] ++ Frm.two n) (Frm.body n l) (Crc.put (Frm.body n l)) (Frm.wire m n l) _ _ m w
    (Lib.hid J) (Lib.hid fun w => wire_any n w hz) (Lib.hid fun w => F.put_list _ w (by rw [sz]; unfold maxLen; omega)) (Lib.hid fun w => S.put_list _ m w (by rw [Crc.put_length]; omega))
    (sums _ _ (by simp) (by omega)) (sums _ _ (by simp; omega) (by omega)) (sums _ _ (by simp) (by omega)) (sums _ _ (by simp; omega) (by simp))
set_option maxHeartbeats 400000 in
theorem put_bad_any (z : Int) (s : ByteArray) (m : Int) (w : World) (hs : s.size ≤ maxLen) (hc : Frm.code z s.size ≠ 0) :
    Calls Try.prog 10 #[.agg #[.int .i64 z, .string s], .int .i64 m] w fun e w' => e = .returned (.tuple #[.string ⟨#[]⟩, .int .i64 (Frm.code z s.size)]) ∧ Below w.heap.size w w' := by
  have J := Lib.hid fun w => judge_any z s w hs
  have hq : (Frm.code z s.size != 0) = true := by simpa using hc
  clear hc
  generalize Frm.code z s.size = c at *
  go_enter Try.func10, Try.ntmps10
  go_wp2_with fail
  refine (J.out _).mono ?_
  rintro e w1 ⟨rfl, hb1⟩
  have HS := Lib.hid (((Below.refl _ w).alloc (Nat.le_refl _) _).trans (hb1.mono (by simp)))
  clear hb1
  go_wp2_with fail
  go_ret2
  exact ⟨rfl, HS.out⟩
/-- The contract of Put. -/
theorem fput_any (z : Int) (l : List UInt8) (m : Int) (w : World) (hs : l.length ≤ maxLen) :
    Calls Try.prog 10 #[.agg #[.int .i64 z, .string ⟨l.toArray⟩], .int .i64 m] w fun e w' => e = .returned (.tuple #[.string ⟨(Frm.put z l m).1.toArray⟩, .int .i64 (Frm.put z l m).2]) ∧ Below w.heap.size w w' := by
  have hs2 : (ByteArray.mk l.toArray).size ≤ maxLen := by rw [sz]; exact hs
  rcases Frm.code_ways z l.length with ⟨h1, h2⟩ | ⟨h1, h3, h2⟩ | ⟨h1, h3, h2⟩
  · have hc : Frm.code z l.length ≠ 0 := by omega
    rw [Frm.put_bad _ _ _ hc]
    have := put_bad_any z ⟨l.toArray⟩ m w hs2 (by rw [sz]; exact hc)
    rwa [sz] at this
  · have hc : Frm.code z l.length ≠ 0 := by omega
    rw [Frm.put_bad _ _ _ hc]
    have := put_bad_any z ⟨l.toArray⟩ m w hs2 (by rw [sz]; exact hc)
    rwa [sz] at this
  · rw [Frm.put_good _ _ _ h2]
    obtain ⟨n, rfl, _⟩ := Frm.good_nat _ h1
    exact put_good_any n l m w h1 h3
end Go.Proofs.Ytnkkompmdngkgaa.R
