/-
  The walks of the laws of any digest, and of the published ones.
-/
import Derived.Test.YtnkcplaggiopmaaDoorDg8
namespace Go.Proofs.YtnkcplaggiopmaaDoor.Dig
theorem known_0 : hex (md5 []) = [100, 52, 49, 100, 56, 99, 100, 57, 56, 102, 48, 48, 98, 50, 48, 52, 101, 57, 56, 48, 48, 57, 57, 56, 101, 99, 102, 56, 52, 50, 55, 101] := by decide +kernel
theorem known_1 : hex (md5 [97]) = [48, 99, 99, 49, 55, 53, 98, 57, 99, 48, 102, 49, 98, 54, 97, 56, 51, 49, 99, 51, 57, 57, 101, 50, 54, 57, 55, 55, 50, 54, 54, 49] := by decide +kernel
theorem known_2 : hex (md5 [109, 101, 115, 115, 97, 103, 101, 32, 100, 105, 103, 101, 115, 116]) = [102, 57, 54, 98, 54, 57, 55, 100, 55, 99, 98, 55, 57, 51, 56, 100, 53, 50, 53, 97, 50, 102, 51, 49, 97, 97, 102, 49, 54, 49, 100, 48] := by decide +kernel
theorem known_3 : hex (md5 [97, 98, 99, 100, 101, 102, 103, 104, 105, 106, 107, 108, 109, 110, 111, 112, 113, 114, 115, 116, 117, 118, 119, 120, 121, 122]) = [99, 51, 102, 99, 100, 51, 100, 55, 54, 49, 57, 50, 101, 52, 48, 48, 55, 100, 102, 98, 52, 57, 54, 99, 99, 97, 54, 55, 101, 49, 51, 98] := by decide +kernel
theorem known_4 : hex (md5 [49, 50, 51, 52, 53, 54, 55, 56, 57, 48, 49, 50, 51, 52, 53, 54, 55, 56, 57, 48, 49, 50, 51, 52, 53, 54, 55, 56, 57, 48, 49, 50, 51, 52, 53, 54, 55, 56, 57, 48, 49, 50, 51, 52, 53, 54, 55, 56, 57, 48, 49, 50, 51, 52, 53, 54, 55, 56, 57, 48, 49, 50, 51, 52, 53, 54, 55, 56, 57, 48, 49, 50, 51, 52, 53, 54, 55, 56, 57, 48]) = [53, 55, 101, 100, 102, 52, 97, 50, 50, 98, 101, 51, 99, 57, 53, 53, 97, 99, 52, 57, 100, 97, 50, 101, 50, 49, 48, 55, 98, 54, 55, 97] := by decide +kernel
end Go.Proofs.YtnkcplaggiopmaaDoor.Dig
namespace Go.Proofs.YtnkcplaggiopmaaDoor.Dg
open Go.RowKit
set_option maxHeartbeats 800000 in
theorem digests_walk (s a b A S : ByteArray) (id : Int) (w : World) (T : Hid (Tab w))
    (O : Hid (∀ W, Below w.heap.size w W → Calls Tryd.prog 8 #[.string s] W fun e w' => e = .returned (.string A) ∧ Below W.heap.size W w'))
    (M : Hid (∀ W, Calls Tryd.prog 9 #[.string s] W fun e w' => e = .returned (.string A) ∧ Below W.heap.size W w'))
    (C : Hid (∀ W, Below w.heap.size w W → Calls Tryd.prog 10 #[.int .i64 id, .string a, .string b] W fun e w' => e = .returned (.string S) ∧ Below W.heap.size W w'))
    (R : Hid (∀ W, Calls Tryd.prog 11 #[.int .i64 id, .string a, .string b] W fun e w' => e = .returned (.string S) ∧ Below W.heap.size W w')) :
    Calls Tryd.prog 3 #[.string s, .int .i64 id, .string a, .string b] w fun e w' => e = .returned (.bool true) ∧ Below w.heap.size w w' := by
  go_enter Tryd.func3, Tryd.ntmps3
  go_wp2_with (first | (go_at_call 8; refine (O.out _ (Below.refl _ _)).mono ?_; rintro e w1 ⟨rfl, hb1⟩; have B1 := Lib.hid hb1; clear hb1) | (go_at_call 9; refine (M.out _).mono ?_; rintro e w2 ⟨rfl, hb2⟩; have B2 := Lib.hid (bel2 B1.out hb2); clear hb2) | (go_at_call 10; refine (C.out _ B2.out).mono ?_; rintro e w3 ⟨rfl, hb3⟩; have B3 := Lib.hid (bel2 B2.out hb3); clear hb3) | (go_at_call 11; refine (R.out _).mono ?_; rintro e w4 ⟨rfl, hb4⟩; have B4 := Lib.hid (bel2 B3.out hb4); clear hb4) | (go_at_call 12; refine (awake_any _ (Lib.hid (T.out.below B4.out))).mono ?_; rintro e w9 ⟨rfl, hb9⟩; have B9 := Lib.hid (bel2 B4.out hb9); clear hb9))
  go_ret
  exact ⟨rfl, B9.out⟩
theorem listed (s : ByteArray) : ∃ l : List UInt8, s = ⟨l.toArray⟩ ∧ l.length = s.size := ⟨s.data.toList, by simp, by simp⟩
theorem walk_digests (s : ByteArray) (id : Int) (a b : ByteArray) (w : World) (hs : s.size ≤ 1048576) (_ : (Lit.int .i64 id).wf = true) (ha : a.size ≤ 1048576) (hb : b.size ≤ 1048576) (T : Tab w) :
    Calls Tryd.prog 3 #[.string s, .int .i64 id, .string a, .string b] w fun e w' => e = .returned (.bool true) ∧ Below w.heap.size w w' := by
  obtain ⟨l, rfl, h1⟩ := listed s
  obtain ⟨p, rfl, h2⟩ := listed a
  obtain ⟨q, rfl, h3⟩ := listed b
  exact digests_walk _ _ _ ⟨(Dig.md5 l).toArray⟩ ⟨(Dig.md5 (Dig.parts id p q)).toArray⟩ id w (Lib.hid T) (Lib.hid fun W hb => of_any l W (by omega) (Lib.hid (T.below hb))) (Lib.hid fun W => md5_any l W (by omega)) (Lib.hid fun W hb => chap_any id p q W (by omega) (Lib.hid (T.below hb))) (Lib.hid fun W => rchap_any id p q W (by omega))
set_option maxRecDepth 100000 in
set_option maxHeartbeats 1600000 in
theorem known_walk (A0 A1 A2 A3 A4 : ByteArray) (w : World)
    (O0 : Hid (∀ W, Below w.heap.size w W → Calls Tryd.prog 8 #[.string { data := #[] }] W fun e w' => e = .returned (.string A0) ∧ Below W.heap.size W w'))
    (H0 : Hid (∀ W, Calls Tryd.prog 13 #[.string A0] W fun e w' => e = .returned (.string { data := #[100, 52, 49, 100, 56, 99, 100, 57, 56, 102, 48, 48, 98, 50, 48, 52, 101, 57, 56, 48, 48, 57, 57, 56, 101, 99, 102, 56, 52, 50, 55, 101] }) ∧ Below W.heap.size W w'))
    (O1 : Hid (∀ W, Below w.heap.size w W → Calls Tryd.prog 8 #[.string { data := #[97] }] W fun e w' => e = .returned (.string A1) ∧ Below W.heap.size W w'))
    (H1 : Hid (∀ W, Calls Tryd.prog 13 #[.string A1] W fun e w' => e = .returned (.string { data := #[48, 99, 99, 49, 55, 53, 98, 57, 99, 48, 102, 49, 98, 54, 97, 56, 51, 49, 99, 51, 57, 57, 101, 50, 54, 57, 55, 55, 50, 54, 54, 49] }) ∧ Below W.heap.size W w'))
    (O2 : Hid (∀ W, Below w.heap.size w W → Calls Tryd.prog 8 #[.string { data := #[109, 101, 115, 115, 97, 103, 101, 32, 100, 105, 103, 101, 115, 116] }] W fun e w' => e = .returned (.string A2) ∧ Below W.heap.size W w'))
    (H2 : Hid (∀ W, Calls Tryd.prog 13 #[.string A2] W fun e w' => e = .returned (.string { data := #[102, 57, 54, 98, 54, 57, 55, 100, 55, 99, 98, 55, 57, 51, 56, 100, 53, 50, 53, 97, 50, 102, 51, 49, 97, 97, 102, 49, 54, 49, 100, 48] }) ∧ Below W.heap.size W w'))
    (O3 : Hid (∀ W, Below w.heap.size w W → Calls Tryd.prog 8 #[.string { data := #[97, 98, 99, 100, 101, 102, 103, 104, 105, 106, 107, 108, 109, 110, 111, 112, 113, 114, 115, 116, 117, 118, 119, 120, 121, 122] }] W fun e w' => e = .returned (.string A3) ∧ Below W.heap.size W w'))
    (H3 : Hid (∀ W, Calls Tryd.prog 13 #[.string A3] W fun e w' => e = .returned (.string { data := #[99, 51, 102, 99, 100, 51, 100, 55, 54, 49, 57, 50, 101, 52, 48, 48, 55, 100, 102, 98, 52, 57, 54, 99, 99, 97, 54, 55, 101, 49, 51, 98] }) ∧ Below W.heap.size W w'))
    (O4 : Hid (∀ W, Below w.heap.size w W → Calls Tryd.prog 8 #[.string { data := #[49, 50, 51, 52, 53, 54, 55, 56, 57, 48, 49, 50, 51, 52, 53, 54, 55, 56, 57, 48, 49, 50, 51, 52, 53, 54, 55, 56, 57, 48, 49, 50, 51, 52, 53, 54, 55, 56, 57, 48, 49, 50, 51, 52, 53, 54, 55, 56, 57, 48, 49, 50, 51, 52, 53, 54, 55, 56, 57, 48, 49, 50, 51, 52, 53, 54, 55, 56, 57, 48, 49, 50, 51, 52, 53, 54, 55, 56, 57, 48] }] W fun e w' => e = .returned (.string A4) ∧ Below W.heap.size W w'))
    (H4 : Hid (∀ W, Calls Tryd.prog 13 #[.string A4] W fun e w' => e = .returned (.string { data := #[53, 55, 101, 100, 102, 52, 97, 50, 50, 98, 101, 51, 99, 57, 53, 53, 97, 99, 52, 57, 100, 97, 50, 101, 50, 49, 48, 55, 98, 54, 55, 97] }) ∧ Below W.heap.size W w')) :
    Calls Tryd.prog 4 #[] w fun e w' => e = .returned (.bool true) ∧ Below w.heap.size w w' := by
  have X0 := Lib.hid (Below.refl w.heap.size w)
  go_enter Tryd.func4, Tryd.ntmps4
  go_wp2_with (first | (go_at_call 8; with_reducible refine (O0.out _ X0.out).mono ?_; rintro e wa0 ⟨rfl, hb⟩; have Y0 := Lib.hid (bel2 X0.out hb); clear hb) | (go_at_call 13; with_reducible refine (H0.out _).mono ?_; rintro e wb0 ⟨rfl, hb⟩; have X1 := Lib.hid (bel2 Y0.out hb); clear hb) | (go_at_call 8; with_reducible refine (O1.out _ X1.out).mono ?_; rintro e wa1 ⟨rfl, hb⟩; have Y1 := Lib.hid (bel2 X1.out hb); clear hb) | (go_at_call 13; with_reducible refine (H1.out _).mono ?_; rintro e wb1 ⟨rfl, hb⟩; have X2 := Lib.hid (bel2 Y1.out hb); clear hb) | (go_at_call 8; with_reducible refine (O2.out _ X2.out).mono ?_; rintro e wa2 ⟨rfl, hb⟩; have Y2 := Lib.hid (bel2 X2.out hb); clear hb) | (go_at_call 13; with_reducible refine (H2.out _).mono ?_; rintro e wb2 ⟨rfl, hb⟩; have X3 := Lib.hid (bel2 Y2.out hb); clear hb) | (go_at_call 8; with_reducible refine (O3.out _ X3.out).mono ?_; rintro e wa3 ⟨rfl, hb⟩; have Y3 := Lib.hid (bel2 X3.out hb); clear hb) | (go_at_call 13; with_reducible refine (H3.out _).mono ?_; rintro e wb3 ⟨rfl, hb⟩; have X4 := Lib.hid (bel2 Y3.out hb); clear hb) | (go_at_call 8; with_reducible refine (O4.out _ X4.out).mono ?_; rintro e wa4 ⟨rfl, hb⟩; have Y4 := Lib.hid (bel2 X4.out hb); clear hb) | (go_at_call 13; with_reducible refine (H4.out _).mono ?_; rintro e wb4 ⟨rfl, hb⟩; have X5 := Lib.hid (bel2 Y4.out hb); clear hb))
  go_ret
  exact ⟨rfl, X5.out⟩
theorem walk_known (w : World) (T : Tab w) : Calls Tryd.prog 4 #[] w fun e w' => e = .returned (.bool true) ∧ Below w.heap.size w w' :=
  known_walk ⟨(Dig.md5 []).toArray⟩ ⟨(Dig.md5 [97]).toArray⟩ ⟨(Dig.md5 [109, 101, 115, 115, 97, 103, 101, 32, 100, 105, 103, 101, 115, 116]).toArray⟩ ⟨(Dig.md5 [97, 98, 99, 100, 101, 102, 103, 104, 105, 106, 107, 108, 109, 110, 111, 112, 113, 114, 115, 116, 117, 118, 119, 120, 121, 122]).toArray⟩ ⟨(Dig.md5 [49, 50, 51, 52, 53, 54, 55, 56, 57, 48, 49, 50, 51, 52, 53, 54, 55, 56, 57, 48, 49, 50, 51, 52, 53, 54, 55, 56, 57, 48, 49, 50, 51, 52, 53, 54, 55, 56, 57, 48, 49, 50, 51, 52, 53, 54, 55, 56, 57, 48, 49, 50, 51, 52, 53, 54, 55, 56, 57, 48, 49, 50, 51, 52, 53, 54, 55, 56, 57, 48, 49, 50, 51, 52, 53, 54, 55, 56, 57, 48]).toArray⟩ w (Lib.hid fun W hb => of_any [] W (by decide) (Lib.hid (T.below hb))) (Lib.hid fun W => hex_at _ _ Dig.known_0 W) (Lib.hid fun W hb => of_any [97] W (by decide) (Lib.hid (T.below hb))) (Lib.hid fun W => hex_at _ _ Dig.known_1 W) (Lib.hid fun W hb => of_any [109, 101, 115, 115, 97, 103, 101, 32, 100, 105, 103, 101, 115, 116] W (by decide) (Lib.hid (T.below hb))) (Lib.hid fun W => hex_at _ _ Dig.known_2 W) (Lib.hid fun W hb => of_any [97, 98, 99, 100, 101, 102, 103, 104, 105, 106, 107, 108, 109, 110, 111, 112, 113, 114, 115, 116, 117, 118, 119, 120, 121, 122] W (by decide) (Lib.hid (T.below hb))) (Lib.hid fun W => hex_at _ _ Dig.known_3 W) (Lib.hid fun W hb => of_any [49, 50, 51, 52, 53, 54, 55, 56, 57, 48, 49, 50, 51, 52, 53, 54, 55, 56, 57, 48, 49, 50, 51, 52, 53, 54, 55, 56, 57, 48, 49, 50, 51, 52, 53, 54, 55, 56, 57, 48, 49, 50, 51, 52, 53, 54, 55, 56, 57, 48, 49, 50, 51, 52, 53, 54, 55, 56, 57, 48, 49, 50, 51, 52, 53, 54, 55, 56, 57, 48, 49, 50, 51, 52, 53, 54, 55, 56, 57, 48] W (by decide) (Lib.hid (T.below hb))) (Lib.hid fun W => hex_at _ _ Dig.known_4 W)
end Go.Proofs.YtnkcplaggiopmaaDoor.Dg
