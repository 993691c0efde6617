/-
  The walk of the law of any message as bytes, any bytes as one.
-/
import Derived.Test.YtkdlhonbpciceaaH9
import Derived.Test.YtkdlhonbpciceaaH6
import Derived.Test.YtkdlhonbpciceaaH8
namespace Go.Proofs.Ytkdlhonbpciceaa.H
open Go.RowKit
set_option maxRecDepth 100000 in
set_option maxHeartbeats 3200000 in
theorem chaps_walk (c i E cc ii G : Int) (v n A s : ByteArray) (vv nn : List UInt8) (w : World)
    (AW : Hid (∀ W, Calls Try.prog 13 #[] W fun e w' => e = .returned (.bool true) ∧ Below W.heap.size W w'))
    (PUT : Hid (∀ W, Calls Try.prog 8 #[.agg #[.int .i64 c, .int .i64 i, .string v, .string n]] W fun e w' => e = .returned (.tuple #[.string A, .int .i64 E]) ∧ Below W.heap.size W w'))
    (REF : Hid (∀ W, Calls Try.prog 9 #[.agg #[.int .i64 c, .int .i64 i, .string v, .string n]] W fun e w' => e = .returned (.tuple #[.string A, .int .i64 E]) ∧ Below W.heap.size W w'))
    (GET : Hid (∀ W, Calls Try.prog 10 #[.string s] W (MsgPost ((cc, ii, vv, nn), G) W)))
    (UN : Hid (∀ W, Calls Try.prog 11 #[.string s] W (MsgPost ((cc, ii, vv, nn), G) W))) :
    Calls Try.prog 3 #[.agg #[.int .i64 c, .int .i64 i, .string v, .string n], .string s] w fun e w' => e = .returned (.bool true) ∧ Below w.heap.size w w' := by
  have EQ := eqC_yes cc ii vv nn
  have E1 := EQ.1
  have E2 := EQ.2.2
  have E3 := guardC
  clear EQ
  have X0 := Lib.hid (Box.new w [.int .i64 c, .int .i64 i, .string v, .string n] 23)
  have B0 := Lib.hid ((Below.refl w.heap.size w).alloc (Nat.le_refl _) (.cells #[.int .i64 c, .int .i64 i, .string v, .string n] 23))
  go_enter Try.func3, Try.ntmps3
  go_wp2_with fail
  refine (PUT.out _).mono ?_
  rintro e w1 ⟨rfl, hb1⟩
  have X1 := X0.out.below hb1
  have B1 := Lib.hid (bel2 B0.out hb1)
  have k0 := X1 0 _ rfl
  have k1 := X1 1 _ rfl
  have k2 := X1 2 _ rfl
  have k3 := X1 3 _ rfl
  clear hb1 X1
  go_wp2_with fail
  clear k0 k1 k2 k3
  refine (REF.out _).mono ?_
  rintro e w2 ⟨rfl, hb2⟩
  have B2 := Lib.hid (bel2 B1.out hb2)
  clear hb2
  go_wp2_with fail
  refine (GET.out _).mono ?_
  rintro e w3 ⟨rfl, hb3⟩
  have Y3 := Lib.hid (Box.new w3 [.int .i64 cc, .int .i64 ii, .string ⟨vv.toArray⟩, .string ⟨nn.toArray⟩] 23)
  have B3 := Lib.hid (bel2 (bel2 B2.out hb3) ((Below.refl w3.heap.size w3).alloc (Nat.le_refl _) (.cells #[.int .i64 cc, .int .i64 ii, .string ⟨vv.toArray⟩, .string ⟨nn.toArray⟩] 23)))
  clear hb3
  go_wp2_with fail
  refine (UN.out _).mono ?_
  rintro e w4 ⟨rfl, hb4⟩
  have Y4 := (Y3.out.below hb4)
  have B4 := Lib.hid (bel2 (bel2 B3.out hb4) ((Below.refl w4.heap.size w4).alloc (Nat.le_refl _) (.cells #[.int .i64 cc, .int .i64 ii, .string ⟨vv.toArray⟩, .string ⟨nn.toArray⟩] 23)))
  have hz := Y4.lt
  have m0 := Y4 0 _ rfl
  have m1 := Y4 1 _ rfl
  have m2 := Y4 2 _ rfl
  have m3 := Y4 3 _ rfl
  clear hb4 Y4
  go_wp2_with (first | (go_at_call 12; refine (num_any _ _).mono ?_; rintro e w9 ⟨rfl, rfl⟩) | (go_at_call 13; refine (AW.out _).mono ?_; rintro e w6 ⟨rfl, hb6⟩; have B6 := Lib.hid (bel2 B4.out hb6); clear hb6))
  go_ret
  exact ⟨rfl, B6.out⟩
theorem walk_chaps (c i : Int) (v n s : ByteArray) (w : World) (hv : v.size ≤ 140737488351232) (hn : n.size ≤ 140737488351232) (hs : s.size ≤ 140737488351232) :
    Calls Try.prog 3 #[.agg #[.int .i64 c, .int .i64 i, .string v, .string n], .string s] w fun e w' => e = .returned (.bool true) ∧ Below w.heap.size w w' := by
  obtain ⟨vl, rfl⟩ : ∃ vl : List UInt8, v = ⟨vl.toArray⟩ := ⟨v.data.toList, by simp⟩
  obtain ⟨nl, rfl⟩ : ∃ nl : List UInt8, n = ⟨nl.toArray⟩ := ⟨n.data.toList, by simp⟩
  obtain ⟨sl, rfl⟩ : ∃ sl : List UInt8, s = ⟨sl.toArray⟩ := ⟨s.data.toList, by simp⟩
  rw [sz] at hv hn hs
  exact chaps_walk c i _ _ _ _ _ _ _ _ _ _ w (Lib.hid fun W => awake_any W) (Lib.hid fun W => hput_any c i vl nl W (by omega)) (Lib.hid fun W => rchap_any c i vl nl W (by omega) (by omega)) (Lib.hid fun W => hget_any sl W (by omega)) (Lib.hid fun W => unchap_any sl W (by omega))
end Go.Proofs.Ytkdlhonbpciceaa.H
