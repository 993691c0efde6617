/-
  What every program of stage 4 answers that is one.
-/
import Derived.Test.YtkbknmoheecplaaO2
import Derived.Test.YtkbknmoheecplaaO5
import Derived.Test.YtkbknmoheecplaaNum
namespace Go.Proofs.Ytkbknmoheecplaa.O
open Go.RowKit
theorem awake1 : Opt.code [(1, [97, 98]), (18, [])] = 0 := by decide +kernel
theorem awake2 : Opt.put [(1, [97, 98]), (18, [])] = [1, 4, 97, 98, 18, 2] := by decide +kernel
theorem awake3 : Opt.get [1, 4, 97, 98, 18, 2] = ([(1, [97, 98]), (18, [])], 0) := by
  have h := Opt.get_put [(1, [97, 98]), (18, [])] awake1
  rwa [show Opt.wires [(1, [97, 98]), (18, [])] = [1, 4, 97, 98, 18, 2] by decide +kernel] at h
theorem awake4 : Opt.get [1, 1] = ([], 400) := by
  refine Opt.get_bad _ (by decide) (Opt.parse_bad _ (by decide) (.inl ?_))
  decide
theorem awake5 : Opt.code [(256, [])] = 400 := by decide +kernel
theorem awake6 : Opt.put [(256, [])] = [] := by decide +kernel
theorem awake7 : Opt.find 18 [(1, [97, 98]), (18, [])] = 1 := by decide +kernel
theorem awake8 : Opt.find 9 [(1, [97, 98]), (18, [])] = -1 := by decide +kernel
set_option maxHeartbeats 1600000 in
theorem awake_any (w : World) : Calls Try.prog 17 #[] w fun e w' => e = .returned (.bool true) ∧ Below w.heap.size w w' := by
  have P1 : Hid (∀ W, Calls Try.prog 8 #[.slice (some ⟨W.heap.size, 0, none⟩) 2 2] (W.alloc (.cells #[.int .i64 1, .string ⟨#[97, 98]⟩, .int .i64 18, .string ⟨#[]⟩] 34)) fun e w' => e = .returned (.tuple #[.string ⟨#[1, 4, 97, 98, 18, 2]⟩, .int .i64 0]) ∧ Below W.heap.size W w') := Lib.hid fun W => by
    have h := oput_any _ [(1, [97, 98]), (18, [])] _ (reads_lit W [(1, [97, 98]), (18, [])] #[.int .i64 1, .string ⟨#[97, 98]⟩, .int .i64 18, .string ⟨#[]⟩] rfl) (by decide)
    rw [awake1, awake2] at h
    exact h.mono fun e w' ⟨h1, h2⟩ => ⟨h1, bel2 ((Below.refl _ _).alloc (Nat.le_refl _) _) h2⟩
  have P2 : Hid (∀ W, Calls Try.prog 8 #[.slice (some ⟨W.heap.size, 0, none⟩) 1 1] (W.alloc (.cells #[.int .i64 256, .string ⟨#[]⟩] 34)) fun e w' => e = .returned (.tuple #[.string ⟨#[]⟩, .int .i64 400]) ∧ Below W.heap.size W w') := Lib.hid fun W => by
    have h := oput_any _ [(256, [])] _ (reads_lit W [(256, [])] #[.int .i64 256, .string ⟨#[]⟩] rfl) (by decide)
    rw [awake5, awake6] at h
    exact h.mono fun e w' ⟨h1, h2⟩ => ⟨h1, bel2 ((Below.refl _ _).alloc (Nat.le_refl _) _) h2⟩
  have G1 : Hid (∀ W, Calls Try.prog 10 #[.string ⟨#[1, 4, 97, 98, 18, 2]⟩] W (GetPost ([(1, [97, 98]), (18, [])], 0) W)) := Lib.hid fun W => by
    have h := oget_any [1, 4, 97, 98, 18, 2] W (by decide)
    rwa [awake3] at h
  have G2 : Hid (∀ W, Calls Try.prog 10 #[.string ⟨#[1, 1]⟩] W (GetPost ([], 400) W)) := Lib.hid fun W => by
    have h := oget_any [1, 1] W (by decide)
    rwa [awake4] at h
  have F1 : Hid (∀ W v, ReadsO W v [(1, [97, 98]), (18, [])] → Calls Try.prog 14 #[.int .i64 18, v] W fun e w' => e = .returned (.int .i64 1) ∧ Below W.heap.size W w') := Lib.hid fun W v hr => by
    have h := find_any 18 v _ W hr (by decide)
    rwa [awake7] at h
  have F2 : Hid (∀ W v, ReadsO W v [(1, [97, 98]), (18, [])] → Calls Try.prog 14 #[.int .i64 9, v] W fun e w' => e = .returned (.int .i64 (-1)) ∧ Below W.heap.size W w') := Lib.hid fun W v hr => by
    have h := find_any 9 v _ W hr (by decide)
    rwa [awake8] at h
  go_enter Try.func17, Try.ntmps17
  go_wp2_with fail
  refine (P1.out _).mono ?_
  rintro e w1 ⟨rfl, hb1⟩
  have B1 := Lib.hid hb1
  clear hb1
  go_wp2_with fail
  refine (G1.out _).mono ?_
  rintro e w2 ⟨v, rfl, ho2⟩
  obtain ⟨p, cap, rfl⟩ : ∃ p cap, v = .slice p 2 cap := by
    obtain ⟨p, cap, _, _, h, _⟩ := ho2.reads.at
    exact ⟨p, cap, h⟩
  have B2 := Lib.hid (bel2 B1.out ho2.2)
  have R2 := Lib.hid ho2.reads
  clear ho2
  go_wp2_with fail
  refine (G2.out _).mono ?_
  rintro e w3 ⟨v3, rfl, ho3⟩
  have B3 := Lib.hid (bel2 B2.out ho3.2)
  have R3 := Lib.hid (R2.out.below ho3.2)
  clear ho3
  go_wp2_with fail
  refine (P2.out _).mono ?_
  rintro e w4 ⟨rfl, hb4⟩
  have B4 := Lib.hid (bel2 B3.out hb4)
  have R4 := Lib.hid (R3.out.below hb4)
  clear hb4
  go_wp2_with (first | (go_at_call 12; refine (num_any _ _).mono ?_; rintro e w9 ⟨rfl, rfl⟩) | (refine (F1.out _ _ R4.out).mono ?_; rintro e w5 ⟨rfl, hb5⟩; have B5 := Lib.hid (bel2 B4.out hb5); have R5 := Lib.hid (R4.out.below hb5); clear hb5) | (refine (F2.out _ _ R5.out).mono ?_; rintro e w6 ⟨rfl, hb6⟩; have B6 := Lib.hid (bel2 B5.out hb6); clear hb6))
  go_ret
  exact ⟨rfl, B6.out⟩
end Go.Proofs.Ytkbknmoheecplaa.O
