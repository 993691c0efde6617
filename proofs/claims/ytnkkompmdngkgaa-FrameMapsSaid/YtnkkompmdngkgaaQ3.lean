/-
  The walk of the law that a frame comes back whatever map it was stuffed by.
-/
import Derived.Test.YtnkkompmdngkgaaR9
namespace Go.Proofs.Ytnkkompmdngkgaa.R
open Go.RowKit
set_option maxHeartbeats 1600000 in
theorem maps_long (s : ByteArray) (a b : Int) (w : World) (h : 2048 < s.size) (hs : s.size ≤ 9223372036854775807) :
    Calls Try.prog 9 #[.string s, .int .i64 a, .int .i64 b] w fun e w' => e = .returned (.bool true) ∧ Below w.heap.size w w' := by
  go_enter Try.func9, Try.ntmps9
  go_wp2_with fail
  refine (awake_any _).mono ?_
  rintro e w0 ⟨rfl, hb0⟩
  have B0 := Lib.hid hb0
  clear hb0
  go_wp2_with fail
  go_ret
  exact ⟨rfl, B0.out.alloc B0.out.size _⟩
set_option maxRecDepth 100000 in
set_option maxHeartbeats 3200000 in
theorem maps_walk (s X Y p q V : ByteArray) (a b : Int) (w : World) (h : s.size ≤ 2048)
    (h1 : 4 ≤ X.size) (h2 : X.size ≤ 5000) (h3 : X.extract 1 (X.size - 1) = p) (g1 : 4 ≤ Y.size) (g2 : Y.size ≤ 5000) (g3 : Y.extract 1 (Y.size - 1) = q)
    (P : Hid (∀ w, Calls Try.prog 10 #[.agg #[.int .i64 33, .string s], .int .i64 a] w fun e w' => e = .returned (.tuple #[.string X, .int .i64 0]) ∧ Below w.heap.size w w'))
    (P2 : Hid (∀ w, Calls Try.prog 10 #[.agg #[.int .i64 33, .string s], .int .i64 b] w fun e w' => e = .returned (.tuple #[.string Y, .int .i64 0]) ∧ Below w.heap.size w w'))
    (G : Hid (∀ w, Calls Try.prog 16 #[.string p] w fun e w' => e = .returned (.tuple #[.agg #[.int .i64 33, .string s], .int .i64 0]) ∧ Below w.heap.size w w'))
    (G2 : Hid (∀ w, Calls Try.prog 16 #[.string q] w fun e w' => e = .returned (.tuple #[.agg #[.int .i64 33, .string s], .int .i64 0]) ∧ Below w.heap.size w w'))
    (S : Hid (∀ w, Calls Try.prog 19 #[.string p] w fun e w' => e = .returned (.tuple #[.string V, .int .i64 0]) ∧ Below w.heap.size w w'))
    (S2 : Hid (∀ w, Calls Try.prog 19 #[.string q] w fun e w' => e = .returned (.tuple #[.string V, .int .i64 0]) ∧ Below w.heap.size w w')) :
    Calls Try.prog 9 #[.string s, .int .i64 a, .int .i64 b] w fun e w' => e = .returned (.bool true) ∧ Below w.heap.size w w' := by
  have i1 : (1 : Int) ≤ (X.size : Int) - 1 := by omega
  have i2 : 1 ≤ X.size - 1 := by omega
  have j1 : (1 : Int) ≤ (Y.size : Int) - 1 := by omega
  have j2 : 1 ≤ Y.size - 1 := by omega
  go_enter Try.func9, Try.ntmps9
  go_wp2_with fail
  refine (awake_any _).mono ?_
  rintro e w0 ⟨rfl, hb0⟩
  have B0 := Lib.hid hb0
  clear hb0
  go_wp2_with fail
  refine (P.out _).mono ?_
  rintro e w1 ⟨rfl, hb1⟩
  have H1 := Lib.hid (box_kept (w := w0) (x := .int .i64 33) (y := .string s) ⟨by simp, by simp, by simp, (Below.refl _ _).alloc (Nat.le_refl _) _⟩ hb1)
  clear hb1
  have k0 := H1.out.1
  have k1 := H1.out.2.1
  go_wp2_with fail
  refine (P2.out _).mono ?_
  rintro e w2 ⟨rfl, hb2⟩
  have H2 := Lib.hid (box_kept H1.out hb2)
  clear hb2 k0 k1 H1
  go_wp2_with (go_at_call 12; refine (num_any _ _).mono ?_; rintro e w9 ⟨rfl, rfl⟩)
  refine (G.out _).mono ?_
  rintro e w3 ⟨rfl, hb3⟩
  have H3 := Lib.hid (box_alloc (box_kept H2.out hb3) (.cells #[.int .i64 33, .string s] 23))
  clear hb3 H2
  go_wp2_with fail
  refine (G2.out _).mono ?_
  rintro e w4 ⟨rfl, hb4⟩
  have H4 := Lib.hid (box_alloc (box_kept H3.out hb4) (.cells #[.int .i64 33, .string s] 23))
  have I4 := Lib.hid (box_alloc (box_kept (w := w3) (x := .int .i64 33) (y := .string s) ⟨by simp, by simp, by simp, (Below.refl _ _).alloc (Nat.le_refl _) _⟩ hb4) (.cells #[.int .i64 33, .string s] 23))
  clear hb4 H3
  go_wp2_with fail
  refine (S.out _).mono ?_
  rintro e w5 ⟨rfl, hb5⟩
  have H5 := Lib.hid (box_kept H4.out hb5)
  have I5 := Lib.hid (box_kept I4.out hb5)
  have J5 := Lib.hid (box_kept (w := w4) (x := .int .i64 33) (y := .string s) ⟨by simp, by simp, by simp, (Below.refl _ _).alloc (Nat.le_refl _) _⟩ hb5)
  clear hb5 H4 I4
  go_wp2_with fail
  refine (S2.out _).mono ?_
  rintro e w6 ⟨rfl, hb6⟩
  have H6 := Lib.hid (box_kept H5.out hb6)
  obtain ⟨k0, k1, _, _⟩ := box_kept H5.out hb6
  obtain ⟨m0, m1, _, _⟩ := box_kept I5.out hb6
  obtain ⟨n0, n1, _, _⟩ := box_kept J5.out hb6
  clear hb6 H5 I5 J5
  go_wp2_with (go_at_call 12; refine (num_any _ _).mono ?_; rintro e w9 ⟨rfl, rfl⟩)
  go_ret
  exact ⟨rfl, bel2 B0.out H6.out.2.2.2⟩
theorem walk_maps (s : ByteArray) (a b : Int) (w : World) (hs : s.size ≤ maxLen) (_wa : (Lit.int .i64 a).wf = true) (_wb : (Lit.int .i64 b).wf = true) :
    Calls Try.prog 9 #[.string s, .int .i64 a, .int .i64 b] w fun e w' => e = .returned (.bool true) ∧ Below w.heap.size w w' := by
  obtain ⟨l, rfl⟩ : ∃ l : List UInt8, s = ⟨l.toArray⟩ := ⟨s.data.toList, by simp⟩
  by_cases h : 2048 < (ByteArray.mk l.toArray).size
  · exact maps_long _ a b w h (by unfold maxLen at hs; omega)
  · rw [sz] at h
    have hg : Frm.good 33 = true := by decide
    have e1 : ∀ m, Frm.put 33 l m = ([126] ++ Frm.wire m 33 l ++ [126], 0) := fun m => Frm.put_good _ _ _ (Frm.code_good _ _ hg (by omega))
    have e2 : ∀ m, Frm.get (Frm.wire m 33 l) = ((33, l), 0) := fun m => Frm.get_wire _ _ _ hg (by omega)
    have hw := fun m => Frm.wire_length m 33 l
    have hwa := hw a
    have hwb := hw b
    have P := fun m w => fput_any 33 l m w (by unfold maxLen; omega)
    have G := fun m w => fget_any (Frm.wire m 33 l) w (by have := hw m; omega)
    have S := fun m w => S.get_list (Frm.wire m 33 l) w (by have := hw m; omega)
    simp only [e1] at P
    simp only [e2] at G
    have e3 : ∀ m, Stf.get (Frm.wire m 33 l) = (Crc.put (Frm.body 33 l), 0) := fun m => Stf.get_put _ _
    simp only [e3] at S
    obtain ⟨i1, i2⟩ := inner (Frm.wire a 33 l)
    obtain ⟨j1, j2⟩ := inner (Frm.wire b 33 l)
    exact maps_walk _ _ _ _ _ _ a b w (by rw [sz]; omega) (by rw [i2]; omega) (by rw [i2]; omega) i1 (by rw [j2]; omega) (by rw [j2]; omega) j1 (Lib.hid (P a)) (Lib.hid (P b)) (Lib.hid (G a)) (Lib.hid (G b)) (Lib.hid (S a)) (Lib.hid (S b))
end Go.Proofs.Ytnkkompmdngkgaa.R
