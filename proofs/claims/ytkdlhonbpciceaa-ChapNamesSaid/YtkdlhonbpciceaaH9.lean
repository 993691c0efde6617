/-
  What every program of stage 6 answers that is one.
-/
import Derived.Test.YtkdlhonbpciceaaH4
import Derived.Test.YtkdlhonbpciceaaH5
import Derived.Test.YtkdlhonbpciceaaNum
import Derived.Test.YtkdlhonbpciceaaEqC
namespace Go.Proofs.Ytkdlhonbpciceaa.H
open Go.RowKit
theorem awake1 : Chp.code (1, 3, [118, 118], [109, 101]) = 0 := by decide +kernel
theorem awake2 : Chp.put (1, 3, [118, 118], [109, 101]) = [1, 3, 0, 9, 2, 118, 118, 109, 101] := by decide +kernel
theorem awake3 : Chp.get [1, 3, 0, 9, 2, 118, 118, 109, 101] = ((1, 3, [118, 118], [109, 101]), 0) := by
  have h := Chp.get_wire (1, 3, [118, 118], [109, 101]) [] awake1
  rwa [← Chp.put_good _ awake1, awake2] at h
theorem awake4 : Chp.get [5, 0, 0, 4] = (Chp.zero, 600) := by decide +kernel
theorem awake5 : Chp.code (3, 0, [120], []) = 600 := by decide +kernel
theorem awake6 : Chp.put (3, 0, [120], []) = [] := by decide +kernel
set_option maxRecDepth 100000 in
set_option maxHeartbeats 1600000 in
theorem awake_any (w : World) : Calls Try.prog 13 #[] w fun e w' => e = .returned (.bool true) ∧ Below w.heap.size w w' := by
  have P1 : Hid (∀ W, Calls Try.prog 8 #[.agg #[.int .i64 1, .int .i64 3, .string ⟨#[118, 118]⟩, .string ⟨#[109, 101]⟩]] W fun e w' => e = .returned (.tuple #[.string ⟨#[1, 3, 0, 9, 2, 118, 118, 109, 101]⟩, .int .i64 0]) ∧ Below W.heap.size W w') := Lib.hid fun W => by
    have h := hput_any 1 3 [118, 118] [109, 101] W (by decide)
    rwa [awake1, awake2] at h
  have P2 : Hid (∀ W, Calls Try.prog 8 #[.agg #[.int .i64 3, .int .i64 0, .string ⟨#[120]⟩, .string ⟨#[]⟩]] W fun e w' => e = .returned (.tuple #[.string ⟨#[]⟩, .int .i64 600]) ∧ Below W.heap.size W w') := Lib.hid fun W => by
    have h := hput_any 3 0 [120] [] W (by decide)
    rwa [awake5, awake6] at h
  have G1 : Hid (∀ W, Calls Try.prog 10 #[.string ⟨#[1, 3, 0, 9, 2, 118, 118, 109, 101]⟩] W (MsgPost ((1, 3, [118, 118], [109, 101]), 0) W)) := Lib.hid fun W => by
    have h := hget_any [1, 3, 0, 9, 2, 118, 118, 109, 101] W (by decide)
    rwa [awake3] at h
  have G2 : Hid (∀ W, Calls Try.prog 10 #[.string ⟨#[5, 0, 0, 4]⟩] W (MsgPost (Chp.zero, 600) W)) := Lib.hid fun W => by
    have h := hget_any [5, 0, 0, 4] W (by decide)
    rwa [awake4] at h
  have EQ := eqC_yes 1 3 [118, 118] [109, 101]
  have E1 := EQ.1
  have E2 := EQ.2.2
  have E3 := guardC
  clear EQ
  have X0 := Lib.hid (Box.new w [.int .i64 1, .int .i64 3, .string ⟨#[118, 118]⟩, .string ⟨#[109, 101]⟩] 23)
  have B0 := Lib.hid ((Below.refl w.heap.size w).alloc (Nat.le_refl _) (.cells #[.int .i64 1, .int .i64 3, .string ⟨#[118, 118]⟩, .string ⟨#[109, 101]⟩] 23))
  go_enter Try.func13, Try.ntmps13
  go_wp2_with fail
  refine (P1.out _).mono ?_
  rintro e w1 ⟨rfl, hb1⟩
  have X1 := Lib.hid (X0.out.below hb1)
  have B1 := Lib.hid (bel2 B0.out hb1)
  clear hb1
  go_wp2_with fail
  refine (G1.out _).mono ?_
  rintro e w2 ⟨rfl, hb2⟩
  have X2 := Lib.hid ((X1.out.below hb2).alloc (.cells #[.int .i64 1, .int .i64 3, .string ⟨#[118, 118]⟩, .string ⟨#[109, 101]⟩] 23))
  have Y2 := Lib.hid (Box.new w2 [.int .i64 1, .int .i64 3, .string ⟨#[118, 118]⟩, .string ⟨#[109, 101]⟩] 23)
  have B2 := Lib.hid (bel2 (bel2 B1.out hb2) ((Below.refl w2.heap.size w2).alloc (Nat.le_refl _) (.cells #[.int .i64 1, .int .i64 3, .string ⟨#[118, 118]⟩, .string ⟨#[109, 101]⟩] 23)))
  clear hb2
  go_wp2_with fail
  refine (G2.out _).mono ?_
  rintro e w3 ⟨rfl, hb3⟩
  have X3 := Lib.hid ((X2.out.below hb3).alloc (.cells #[.int .i64 0, .int .i64 0, .string ⟨#[]⟩, .string ⟨#[]⟩] 23))
  have Y3 := Lib.hid ((Y2.out.below hb3).alloc (.cells #[.int .i64 0, .int .i64 0, .string ⟨#[]⟩, .string ⟨#[]⟩] 23))
  have B3 := Lib.hid (bel2 (bel2 B2.out hb3) ((Below.refl w3.heap.size w3).alloc (Nat.le_refl _) (.cells #[.int .i64 0, .int .i64 0, .string ⟨#[]⟩, .string ⟨#[]⟩] 23)))
  clear hb3
  go_wp2_with fail
  refine (P2.out _).mono ?_
  rintro e w4 ⟨rfl, hb4⟩
  have X4 := X3.out.below hb4
  have Y4 := Y3.out.below hb4
  have B4 := Lib.hid (bel2 B3.out hb4)
  have k0 := X4 0 _ rfl
  have k1 := X4 1 _ rfl
  have k2 := X4 2 _ rfl
  have k3 := X4 3 _ rfl
  have m0 := Y4 0 _ rfl
  have m1 := Y4 1 _ rfl
  have m2 := Y4 2 _ rfl
  have m3 := Y4 3 _ rfl
  clear hb4 X4 Y4
  go_wp2_with (go_at_call 12; refine (num_any _ _).mono ?_; rintro e w9 ⟨rfl, rfl⟩)
  go_ret
  exact ⟨rfl, B4.out⟩
end Go.Proofs.Ytkdlhonbpciceaa.H
