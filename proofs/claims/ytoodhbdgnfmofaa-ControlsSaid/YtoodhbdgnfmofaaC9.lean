/-
  What every program of stage 5 answers that is one.
-/
import Derived.Test.YtoodhbdgnfmofaaC2
import Derived.Test.YtoodhbdgnfmofaaC6
import Derived.Test.YtoodhbdgnfmofaaC8
import Derived.Test.YtoodhbdgnfmofaaNum
namespace Go.Proofs.Ytoodhbdgnfmofaa.C
open Go.RowKit
theorem awake1 : Ctl.code (1, 7, [(1, [97, 98])], []) = 0 := by decide +kernel
theorem awake2 : Ctl.put (1, 7, [(1, [97, 98])], []) = [1, 7, 0, 8, 1, 4, 97, 98] := by decide +kernel
theorem awake3 : Ctl.get [1, 7, 0, 8, 1, 4, 97, 98, 112, 97, 100] = ((1, 7, [(1, [97, 98])], []), 0) := by
  have h := Ctl.get_wire (1, 7, [(1, [97, 98])], []) [112, 97, 100] awake1
  rwa [← Ctl.put_good _ awake1, awake2] at h
theorem awake4 : Ctl.get [1] = (Ctl.zero, 500) := rfl
theorem awake5 : Ctl.code (9, 0, [(1, [97, 98])], []) = 502 := by decide +kernel
theorem awake6 : Ctl.put (9, 0, [(1, [97, 98])], []) = [] := by decide +kernel
set_option maxHeartbeats 1600000 in
theorem awake_any (w : World) : Calls Try.prog 17 #[] w fun e w' => e = .returned (.bool true) ∧ Below w.heap.size w w' := by
  have P1 : Hid (∀ W v, ReadsO W v [(1, [97, 98])] → Calls Try.prog 9 #[.agg #[.int .i64 1, .int .i64 7, v, .string ⟨#[]⟩]] W fun e w' => e = .returned (.tuple #[.string ⟨#[1, 7, 0, 8, 1, 4, 97, 98]⟩, .int .i64 0]) ∧ Below W.heap.size W w') := Lib.hid fun W v hr => by
    have h := cput_any 1 7 v [(1, [97, 98])] [] W hr (by decide) (by decide)
    rwa [awake1, awake2] at h
  have P2 : Hid (∀ W v, ReadsO W v [(1, [97, 98])] → Calls Try.prog 9 #[.agg #[.int .i64 9, .int .i64 0, v, .string ⟨#[]⟩]] W fun e w' => e = .returned (.tuple #[.string ⟨#[]⟩, .int .i64 502]) ∧ Below W.heap.size W w') := Lib.hid fun W v hr => by
    have h := cput_any 9 0 v [(1, [97, 98])] [] W hr (by decide) (by decide)
    rwa [awake5, awake6] at h
  have G1 : Hid (∀ W, Calls Try.prog 11 #[.string ⟨#[1, 7, 0, 8, 1, 4, 97, 98, 112, 97, 100]⟩] W (PkPost ((1, 7, [(1, [97, 98])], []), 0) W)) := Lib.hid fun W => by
    have h := cget_any [1, 7, 0, 8, 1, 4, 97, 98, 112, 97, 100] W (by decide)
    rwa [awake3] at h
  have G2 : Hid (∀ W, Calls Try.prog 11 #[.string ⟨#[1]⟩] W (PkPost (Ctl.zero, 500) W)) := Lib.hid fun W => by
    have h := cget_any [1] W (by decide)
    rwa [awake4] at h
  have S : Hid (∀ W va vb, ReadsO W va [(1, [97, 98])] → ReadsO W vb [(1, [97, 98])] → Calls Try.prog 14 #[.agg #[.int .i64 1, .int .i64 7, va, .string ⟨#[]⟩], .agg #[.int .i64 1, .int .i64 7, vb, .string ⟨#[]⟩]] W fun e w' => e = .returned (.bool true) ∧ Below W.heap.size W w') := Lib.hid fun W va vb ha hb => samep_any 1 7 va vb _ _ W ha hb (by decide)
  have R0 := Lib.hid ((reads_lit w [(1, [97, 98])] #[.int .i64 1, .string ⟨#[97, 98]⟩] rfl).below ((Below.refl _ _).alloc (Nat.le_refl _) (.cells #[.int .i64 1, .int .i64 7, .slice (some ⟨w.heap.size, 0, none⟩) 1 1, .string ⟨#[]⟩] 24)))
  have X0 := Lib.hid ((Box.new (w.alloc (.cells #[.int .i64 1, .string ⟨#[97, 98]⟩] 46)) [.int .i64 1, .int .i64 7, .slice (some ⟨w.heap.size, 0, none⟩) 1 1, .string ⟨#[]⟩] 24).at (n := w.heap.size + 1) (by simp))
  have B0 := Lib.hid (((Below.refl w.heap.size w).alloc (Nat.le_refl _) (.cells #[.int .i64 1, .string ⟨#[97, 98]⟩] 46)).alloc (by simp) (.cells #[.int .i64 1, .int .i64 7, .slice (some ⟨w.heap.size, 0, none⟩) 1 1, .string ⟨#[]⟩] 24))
  go_enter Try.func17, Try.ntmps17
  go_wp2_with fail
  refine (P1.out _ _ R0.out).mono ?_
  rintro e w1 ⟨rfl, hb1⟩
  have R1 := Lib.hid (R0.out.below hb1)
  have X1 := Lib.hid (X0.out.below hb1)
  have B1 := Lib.hid (bel2 B0.out hb1)
  clear hb1
  go_wp2_with fail
  refine (G1.out _).mono ?_
  rintro e w2 ⟨v2, rfl, ho2⟩
  obtain ⟨p2, cap2, rfl⟩ := ho2.form2
  have A2 := Below.refl w2.heap.size w2
  have B2 := Lib.hid (bel2 B1.out ho2.2)
  have R2 := Lib.hid ((R1.out.below ho2.2).below (A2.alloc (Nat.le_refl _) (.cells #[.int .i64 1, .int .i64 7, .slice p2 1 cap2, .string ⟨#[]⟩] 24)))
  have X2 := Lib.hid ((X1.out.below ho2.2).alloc (.cells #[.int .i64 1, .int .i64 7, .slice p2 1 cap2, .string ⟨#[]⟩] 24))
  have Q2 := Lib.hid (ho2.reads.below (A2.alloc (Nat.le_refl _) (.cells #[.int .i64 1, .int .i64 7, .slice p2 1 cap2, .string ⟨#[]⟩] 24)))
  have Y2 := Lib.hid (Box.new w2 [.int .i64 1, .int .i64 7, .slice p2 1 cap2, .string ⟨#[]⟩] 24)
  clear ho2 A2
  go_wp2_with fail
  refine (G2.out _).mono ?_
  rintro e w3 ⟨v3, rfl, ho3⟩
  obtain ⟨p3, cap3, rfl⟩ := ho3.form2
  have B3 := Lib.hid ((bel2 B2.out ((Below.refl w2.heap.size w2).alloc (Nat.le_refl _) (.cells #[.int .i64 1, .int .i64 7, .slice p2 1 cap2, .string ⟨#[]⟩] 24))) |> fun h => bel2 h ho3.2)
  have R3 := Lib.hid ((R2.out.below ho3.2).below ((Below.refl w3.heap.size w3).alloc (Nat.le_refl _) (.cells #[.int .i64 0, .int .i64 0, .slice p3 0 cap3, .string ⟨#[]⟩] 24)))
  have Q3 := Lib.hid ((Q2.out.below ho3.2).below ((Below.refl w3.heap.size w3).alloc (Nat.le_refl _) (.cells #[.int .i64 0, .int .i64 0, .slice p3 0 cap3, .string ⟨#[]⟩] 24)))
  have X3 := Lib.hid (X2.out.below ho3.2)
  have Y3 := Lib.hid (Y2.out.below ho3.2)
  have z3 := X3.out.lt
  have k2 := X3.out 2 _ rfl
  clear ho3
  go_wp2_with fail
  refine (P2.out _ _ R3.out).mono ?_
  rintro e w4 ⟨rfl, hb4⟩
  have B4 := Lib.hid (bel2 (B3.out.alloc B3.out.size _) hb4)
  have R4 := Lib.hid (R3.out.below hb4)
  have Q4 := Lib.hid (Q3.out.below hb4)
  have X4 := (X3.out.alloc _).below hb4
  have Y4 := (Y3.out.alloc _).below hb4
  clear k2
  have k0 := X4 0 _ rfl
  have k1 := X4 1 _ rfl
  have k2 := X4 2 _ rfl
  have k3 := X4 3 _ rfl
  have m0 := Y4 0 _ rfl
  have m1 := Y4 1 _ rfl
  have m2 := Y4 2 _ rfl
  have m3 := Y4 3 _ rfl
  clear hb4 X4 Y4
  go_wp2_with (first | (go_at_call 13; refine (num_any _ _).mono ?_; rintro e w9 ⟨rfl, rfl⟩) | (refine (S.out _ _ _ Q4.out R4.out).mono ?_; rintro e w5 ⟨rfl, hb5⟩; have B5 := Lib.hid (bel2 B4.out hb5); clear hb5))
  go_ret
  exact ⟨rfl, B5.out⟩
end Go.Proofs.Ytoodhbdgnfmofaa.C
