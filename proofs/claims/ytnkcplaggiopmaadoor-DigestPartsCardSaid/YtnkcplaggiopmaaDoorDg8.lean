/-
  What every program of stage 13 answers that is one.
-/
import Derived.Test.YtnkcplaggiopmaaDoorDg7
import Derived.Test.YtnkcplaggiopmaaDoorDg6
import Derived.Test.YtnkcplaggiopmaaDoorNum
namespace Go.Proofs.YtnkcplaggiopmaaDoor.Dig
theorem md5_length (l : List UInt8) : (md5 l).length = 16 := by simp [md5, out, four]
end Go.Proofs.YtnkcplaggiopmaaDoor.Dig
namespace Go.Proofs.YtnkcplaggiopmaaDoor.Dg
open Go.RowKit
/-- A digest at bytes whose digits are known. -/
theorem hex_at (l d : List UInt8) (h : Dig.hex (Dig.md5 l) = d) (w : World) : Calls Tryd.prog 13 #[.string ⟨(Dig.md5 l).toArray⟩] w fun e w' => e = .returned (.string ⟨d.toArray⟩) ∧ Below w.heap.size w w' := by
  have k := hex_any (Dig.md5 l) w (by rw [Dig.md5_length]; decide)
  rwa [h] at k
set_option maxRecDepth 100000 in
set_option maxHeartbeats 800000 in
theorem awake_walk (A S : ByteArray) (w : World)
    (O : Hid (∀ W, Below w.heap.size w W → Calls Tryd.prog 8 #[.string { data := #[97, 98, 99] }] W fun e w' => e = .returned (.string A) ∧ Below W.heap.size W w'))
    (H : Hid (∀ W, Calls Tryd.prog 13 #[.string A] W fun e w' => e = .returned (.string { data := #[57, 48, 48, 49, 53, 48, 57, 56, 51, 99, 100, 50, 52, 102, 98, 48, 100, 54, 57, 54, 51, 102, 55, 100, 50, 56, 101, 49, 55, 102, 55, 50] }) ∧ Below W.heap.size W w'))
    (C : Hid (∀ W, Below w.heap.size w W → Calls Tryd.prog 10 #[.int .i64 7, .string { data := #[115] }, .string { data := #[99] }] W fun e w' => e = .returned (.string S) ∧ Below W.heap.size W w'))
    (R : Hid (∀ W, Calls Tryd.prog 11 #[.int .i64 7, .string { data := #[115] }, .string { data := #[99] }] W fun e w' => e = .returned (.string S) ∧ Below W.heap.size W w')) :
    Calls Tryd.prog 12 #[] w fun e w' => e = .returned (.bool true) ∧ Below w.heap.size w w' := by
  go_enter Tryd.func12, Tryd.ntmps12
  go_wp2_with (first | (go_at_call 8; refine (O.out _ (Below.refl _ _)).mono ?_; rintro e w1 ⟨rfl, hb1⟩; have B1 := Lib.hid hb1; clear hb1) | (go_at_call 13; refine (H.out _).mono ?_; rintro e w2 ⟨rfl, hb2⟩; have B2 := Lib.hid (bel2 B1.out hb2); clear hb2) | (go_at_call 10; refine (C.out _ B2.out).mono ?_; rintro e w3 ⟨rfl, hb3⟩; have B3 := Lib.hid (bel2 B2.out hb3); clear hb3) | (go_at_call 11; refine (R.out _).mono ?_; rintro e w4 ⟨rfl, hb4⟩; have B4 := Lib.hid (bel2 B3.out hb4); clear hb4) | (go_at_call 14; refine (num_any _ _).mono ?_; rintro e w9 ⟨rfl, rfl⟩))
  go_ret
  exact ⟨rfl, B4.out⟩
theorem awake_any (w : World) (T : Hid (Tab w)) : Calls Tryd.prog 12 #[] w fun e w' => e = .returned (.bool true) ∧ Below w.heap.size w w' :=
  awake_walk ⟨(Dig.md5 [97, 98, 99]).toArray⟩ ⟨(Dig.md5 (Dig.parts 7 [115] [99])).toArray⟩ w (Lib.hid fun W hb => of_any [97, 98, 99] W (by decide) (Lib.hid (T.out.below hb))) (Lib.hid fun W => hex_at _ _ Dig.known_abc W) (Lib.hid fun W hb => chap_any 7 [115] [99] W (by decide) (Lib.hid (T.out.below hb))) (Lib.hid fun W => rchap_any 7 [115] [99] W (by decide))
end Go.Proofs.YtnkcplaggiopmaaDoor.Dg
