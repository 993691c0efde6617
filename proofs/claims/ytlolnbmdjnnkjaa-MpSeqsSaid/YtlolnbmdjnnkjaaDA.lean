/-
  What every program of stage 8 answers that is one.
-/
import Derived.Test.YtlolnbmdjnnkjaaD5
import Derived.Test.YtlolnbmdjnnkjaaNum
import Derived.Test.YtlolnbmdjnnkjaaEqF
namespace Go.Proofs.Ytlolnbmdjnnkjaa.D
open Go.RowKit
theorem awake1 : Mph.code true (true, false, 291, [120]) = 0 := by decide +kernel
theorem awake2 : Mph.put true (true, false, 291, [120]) = [129, 35, 120] := by decide +kernel
theorem awake3 : Mph.code false (true, false, 291, [120]) = 0 := by decide +kernel
theorem awake4 : Mph.put false (true, false, 291, [120]) = [128, 0, 1, 35, 120] := by decide +kernel
theorem awake5 : Mph.get true [129, 35, 120] = ((true, false, 291, [120]), 0) := by decide +kernel
theorem awake6 : Mph.get true [1] = (Mph.zero, 800) := by decide +kernel
theorem awake7 : Mph.code true (false, false, 4096, []) = 801 := by decide +kernel
theorem awake8 : Mph.put true (false, false, 4096, []) = [] := by decide +kernel
set_option maxRecDepth 100000 in
set_option maxHeartbeats 1600000 in
theorem awake_any (w : World) : Calls Try.prog 12 #[] w fun e w' => e = .returned (.bool true) ∧ Below w.heap.size w w' := by
  have P1 : Hid (∀ W, Calls Try.prog 7 #[.agg #[.bool true, .bool false, .int .i64 291, .string ⟨#[120]⟩], .bool true] W fun e w' => e = .returned (.tuple #[.string ⟨#[129, 35, 120]⟩, .int .i64 0]) ∧ Below W.heap.size W w') := Lib.hid fun W => by
    have h := dput_any true true false 291 [120] W
    rwa [awake1, awake2] at h
  have P2 : Hid (∀ W, Calls Try.prog 7 #[.agg #[.bool true, .bool false, .int .i64 291, .string ⟨#[120]⟩], .bool false] W fun e w' => e = .returned (.tuple #[.string ⟨#[128, 0, 1, 35, 120]⟩, .int .i64 0]) ∧ Below W.heap.size W w') := Lib.hid fun W => by
    have h := dput_any false true false 291 [120] W
    rwa [awake3, awake4] at h
  have P3 : Hid (∀ W, Calls Try.prog 7 #[.agg #[.bool false, .bool false, .int .i64 4096, .string ⟨#[]⟩], .bool true] W fun e w' => e = .returned (.tuple #[.string ⟨#[]⟩, .int .i64 801]) ∧ Below W.heap.size W w') := Lib.hid fun W => by
    have h := dput_any true false false 4096 [] W
    rwa [awake7, awake8] at h
  have G1 : Hid (∀ W, Calls Try.prog 9 #[.string ⟨#[129, 35, 120]⟩, .bool true] W (FragPost ((true, false, 291, [120]), 0) W)) := Lib.hid fun W => by
    have h := dget_any true [129, 35, 120] W
    rwa [awake5] at h
  have G2 : Hid (∀ W, Calls Try.prog 9 #[.string ⟨#[1]⟩, .bool true] W (FragPost (Mph.zero, 800) W)) := Lib.hid fun W => by
    have h := dget_any true [1] W
    rwa [awake6] at h
  have EQ := eqF_yes true false 291 [120]
  have E1 := EQ.1
  have E2 := EQ.2.2
  have E3 := guardF
  clear EQ
  have X0 := Lib.hid (Box.new w [.bool true, .bool false, .int .i64 291, .string ⟨#[120]⟩] 23)
  have B0 := Lib.hid ((Below.refl w.heap.size w).alloc (Nat.le_refl _) (.cells #[.bool true, .bool false, .int .i64 291, .string ⟨#[120]⟩] 23))
  go_enter Try.func12, Try.ntmps12
  go_wp2_with fail
  refine (P1.out _).mono ?_
  rintro e w1 ⟨rfl, hb1⟩
  have X1 := Lib.hid (X0.out.below hb1)
  have B1 := Lib.hid (bel2 B0.out hb1)
  have k0 := X1.out 0 _ rfl
  have k1 := X1.out 1 _ rfl
  have k2 := X1.out 2 _ rfl
  have k3 := X1.out 3 _ rfl
  clear hb1
  go_wp2_with fail
  clear k0 k1 k2 k3
  refine (P2.out _).mono ?_
  rintro e w5 ⟨rfl, hb5⟩
  have X5 := Lib.hid (X1.out.below hb5)
  have B5 := Lib.hid (bel2 B1.out hb5)
  clear hb5
  go_wp2_with fail
  refine (G1.out _).mono ?_
  rintro e w2 ⟨rfl, hb2⟩
  have X2 := Lib.hid ((X5.out.below hb2).alloc (.cells #[.bool true, .bool false, .int .i64 291, .string ⟨#[120]⟩] 23))
  have Y2 := Lib.hid (Box.new w2 [.bool true, .bool false, .int .i64 291, .string ⟨#[120]⟩] 23)
  have B2 := Lib.hid (bel2 (bel2 B5.out hb2) ((Below.refl w2.heap.size w2).alloc (Nat.le_refl _) (.cells #[.bool true, .bool false, .int .i64 291, .string ⟨#[120]⟩] 23)))
  clear hb2
  go_wp2_with fail
  refine (G2.out _).mono ?_
  rintro e w3 ⟨rfl, hb3⟩
  have X3 := Lib.hid ((X2.out.below hb3).alloc (.cells #[.bool false, .bool false, .int .i64 0, .string ⟨#[]⟩] 23))
  have Y3 := Lib.hid ((Y2.out.below hb3).alloc (.cells #[.bool false, .bool false, .int .i64 0, .string ⟨#[]⟩] 23))
  have B3 := Lib.hid (bel2 (bel2 B2.out hb3) ((Below.refl w3.heap.size w3).alloc (Nat.le_refl _) (.cells #[.bool false, .bool false, .int .i64 0, .string ⟨#[]⟩] 23)))
  clear hb3
  go_wp2_with fail
  refine (P3.out _).mono ?_
  rintro e w4 ⟨rfl, hb4⟩
  have X4 := X3.out.below hb4
  have Y4 := Y3.out.below hb4
  have B4 := Lib.hid (bel2 B3.out hb4)
  have k0 := X4 0 _ rfl
  have k1 := X4 1 _ rfl
  have k2 := X4 2 _ rfl
  have k3 := X4 3 _ rfl
  have m0 := Y4 0 _ rfl
  have m1 := Y4 1 _ rfl
  have m2 := Y4 2 _ rfl
  have m3 := Y4 3 _ rfl
  clear hb4 X4 Y4
  go_wp2_with (go_at_call 11; refine (num_any _ _).mono ?_; rintro e w9 ⟨rfl, rfl⟩)
  go_ret
  exact ⟨rfl, B4.out⟩
end Go.Proofs.Ytlolnbmdjnnkjaa.D
