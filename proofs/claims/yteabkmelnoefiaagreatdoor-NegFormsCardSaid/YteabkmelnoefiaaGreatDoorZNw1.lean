/-
  Stage 15: the walk of the law of a side that nobody answers.
  Stage 15: the walk of the law of which links, tries, events there are.
  Stage 15: the walk of the law of an answer to an elder request.
  Stage 15: the walk of the law of a side that was refused an option.
  Stage 15's walks, as the frames take them.
-/
import Derived.Test.YteabkmelnoefiaaGreatDoorZ29
import Derived.Test.YteabkmelnoefiaaGreatDoorZ02
import Derived.Test.YteabkmelnoefiaaGreatDoorZ05
import Derived.Test.YteabkmelnoefiaaGreatDoorZ04
import Derived.Test.YteabkmelnoefiaaGreatDoorZ09
import Derived.Deep.RegionHeldLaw
namespace Go.Proofs.YteabkmelnoefiaaGreatDoor.Ne
open Go.RowKit
set_option maxRecDepth 100000
theorem later_st (l : Pol.Lk) (t : Int) (k : Nat) : (Ng.later l t k).st = 6 := rfl
set_option maxHeartbeats 6400000 in
theorem quits_good (l : Pol.Lk) (t : Int) (x : Nat) (hz : wrap64 ((IntKind.u64.wrap t).tmod 10) = (x : Int)) (hx : x < 10) (hm : Pol.may l = true) (w : World) (ST : U.StepOk w) :
    Calls Tryz.prog 5 #[.agg (Pl.lcs l).toArray, .int .i64 t] w fun e w' => e = .returned (.bool true) ∧ Below w.heap.size w w' := by
  have hfine : Ng.fine l (1 + (x : Int)) = true := by
    unfold Ng.fine
    rw [hm]
    simp only [Bool.true_and, Bool.and_eq_true, decide_eq_true_eq]
    omega
  have q1 : wrap64 (1 + (x : Int)) = 1 + (x : Int) := IntWalk.wrap64_in _ ⟨by omega, by omega⟩
  obtain ⟨U2, U3⟩ := Ng.up_asks l (1 + (x : Int))
  obtain ⟨g1, hg1⟩ : ∃ g, g = (Ng.step (Ng.fresh l (1 + (x : Int))) 2).1 := ⟨_, rfl⟩
  have hU2 : Ng.step (Ng.fresh l (1 + (x : Int))) 2 = (g1, [], 0) := by rw [hg1, ← U3]
  rw [← hg1] at U2
  have N1 := Lib.hid fun W (hb : Below w.heap.size w W) => side_new ST hb l (1 + (x : Int)) hfine
  have D1 := Lib.hid fun B W (h : Rep w B W (Ng.fresh l (1 + (x : Int)))) => side_do h 2
  have D2 := Lib.hid fun B W (h : Rep w B W g1) => side_do h 0
  rw [hU2] at D1
  rw [U2, Ng.asking_later l (1 + (x : Int)) (by omega)] at D2
  have DM := Lib.hid fun B W (j : Nat) (hj : j < x) (h : Rep w B W (Ng.later l (1 + (x : Int)) j)) => side_do h 4
  have DS := Lib.hid fun B W (h : Rep w B W (Ng.later l (1 + (x : Int)) x)) => side_do h 4
  have HM : Hid (∀ j : Nat, j < x → Ng.step (Ng.later l (1 + (x : Int)) j) 4 = (Ng.later l (1 + (x : Int)) (j + 1), [(1, 2 + (j : Int), (Pol.ask l).1, [])], 0)) := Lib.hid fun j hj => Ng.more l _ j (by omega) (by omega)
  have HS : Hid ((Ng.step (Ng.later l (1 + (x : Int)) x) 4).1.st = 3 ∧ (Ng.step (Ng.later l (1 + (x : Int)) x) 4).2 = ([], 0)) := Lib.hid (Ng.stops l _ x (by omega))
  obtain ⟨w1, hw1⟩ : ∃ w1, w1 = w.alloc (.cells (Pl.lcs l).toArray 23) := ⟨_, rfl⟩
  have HB : Hid (Below w.heap.size w w1) := Lib.hid (hw1 ▸ (Below.refl w.heap.size w).alloc (Nat.le_refl _) _)
  have L1 : Hid (Pl.Lnk w.heap.size w1 l) := Lib.hid (hw1 ▸ Pl.Lnk.new w l)
  have AW := Lib.hid (awake_any w1 (U.StepOk.later ST HB.out))
  have NU := Lib.hid num_any
  generalize Ng.fresh l (1 + (x : Int)) = g0 at *
  have LS := Lib.hid (later_st l (1 + (x : Int)))
  generalize Ng.later l (1 + (x : Int)) = lat at *
  clear hfine hU2 U2 U3 hg1 ST
  go_enter Tryz.func5, Tryz.ntmps5
  go_upto_region 1 with (fail)
  rw [← hw1]
  clear hw1
  go_wp2_with (first
    | (go_at_call 15; (refine AW.out.mono ?_); rintro e w2 ⟨rfl, hb⟩; have B2 := Lib.hid (bel2 HB.out hb); have L2 := Lib.hid (L1.out.below hb); clear hb)
    | (refine Pl.step_link rfl _ rfl w.heap.size l rfl L2.out ?_)
    | (go_at_call 12; (refine (N1.out _ B2.out).mono ?_); rintro e w3 ⟨B, rfl, hB, hr, hb⟩; have C1 := Lib.hid (D1.out _ _ hr); clear hr hb hB)
    | (go_at_call 14; (refine (NU.out _ _).mono ?_); rintro e v1 ⟨rfl, rfl⟩)
    | (go_at_call 16; (with_reducible refine C1.out.mono ?_); rintro e w4 ⟨v4, rfl, hs⟩; have C2 := Lib.hid (D2.out _ _ hs.rep); clear hs)
    | (go_at_call 16; (with_reducible refine C2.out.mono ?_); rintro e w5 ⟨v5, rfl, hs⟩; have R5 := Lib.hid hs.rep; obtain ⟨p5, c5, e5⟩ := hs.packs.form; subst e5; clear hs))
  go_loopw [10, 11] (fun many i wr => ∃ j : Nat, i = .int .i64 (j : Int) ∧ ((j ≤ x ∧ many = .int .i64 (1 + (j : Int)) ∧ Rep w B wr (lat j)) ∨ (j = x + 1 ∧ many = .int .i64 (1 + (x : Int)) ∧ ∃ g : Ng.Side, g.st = 3 ∧ Rep w B wr g))) (fun _ i _ => 12 - (intOf i).toNat)
  case atStart => exact ⟨0, rfl, .inl ⟨by omega, rfl, R5.out⟩⟩
  case round =>
    obtain ⟨j, rfl, hj⟩ := hrel
    rcases hj with ⟨hj, rfl, hr⟩ | ⟨rfl, rfl, g, hg, hr⟩
    · have HR := Lib.hid hr
      have hst := LS.out j
      have SS := Lib.hid (side_state hr)
      rw [hst] at SS
      have q2 : decide ((j : Int) < 30) = true := decide_eq_true (by omega)
      have q3 : wrap64 (1 + (j : Int) + 1) = 1 + ((j + 1 : Nat) : Int) := by rw [IntWalk.wrap64_in _ ⟨by omega, by omega⟩]; omega
      have q4 : wrap64 (1 + (j : Int)) = 1 + (j : Int) := IntWalk.wrap64_in _ ⟨by omega, by omega⟩
      by_cases hlt : j < x
      · have CM := Lib.hid (DM.out B wr j hlt hr)
        rw [HM.out j hlt] at CM
        clear hr hst
        go_wp2_with (first
          | (go_at_call 24; (refine SS.out.mono ?_); rintro e v1 ⟨rfl, rfl⟩)
          | (go_at_call 16; (refine CM.out.mono ?_); rintro e w6 ⟨v6, rfl, hs⟩; have R6 := Lib.hid hs.rep; obtain ⟨p6, c6, e6⟩ := hs.packs.form; subst e6; clear hs)
          | (go_at_call 14; (refine (NU.out _ _).mono ?_); rintro e v1 ⟨rfl, rfl⟩))
        go_roundw
        case rel => exact ⟨j + 1, by go_num, .inl ⟨by omega, by first | rfl | (congr 1), R6.out⟩⟩
        case measure => simp [intOf]; omega
      · obtain rfl : j = x := by omega
        have CS := Lib.hid (DS.out B wr hr)
        obtain ⟨s1, s2⟩ := HS.out
        obtain ⟨RR, hRR⟩ : ∃ R, R = Ng.step (lat j) 4 := ⟨_, rfl⟩
        rw [← hRR] at CS s1 s2
        clear hRR
        obtain ⟨gS, psS, cS⟩ := RR
        obtain ⟨rfl, rfl⟩ := Prod.mk.inj s2
        dsimp only at s1
        clear hr hst s2
        go_wp2_with (first
          | (go_at_call 24; (refine SS.out.mono ?_); rintro e v1 ⟨rfl, rfl⟩)
          | (go_at_call 16; (refine CS.out.mono ?_); rintro e w6 ⟨v6, rfl, hs⟩; have R6 := Lib.hid hs.rep; obtain ⟨p6, c6, e6⟩ := hs.packs.form; subst e6; clear hs)
          | (go_at_call 14; (refine (NU.out _ _).mono ?_); rintro e v1 ⟨rfl, rfl⟩))
        go_roundw
        case rel => exact ⟨j + 1, by go_num, .inr ⟨rfl, by first | rfl | (congr 1), gS, s1, R6.out⟩⟩
        case measure => simp [intOf]; omega
    · have SS := Lib.hid (side_state hr)
      rw [hg] at SS
      have HR := Lib.hid hr
      have q2 : decide (((x + 1 : Nat) : Int) < 30) = true := decide_eq_true (by omega)
      clear hr
      go_wp2_with (first
        | (go_at_call 24; (refine SS.out.mono ?_); rintro e v1 ⟨rfl, rfl⟩)
        | (go_at_call 14; (refine (NU.out _ _).mono ?_); rintro e v1 ⟨rfl, rfl⟩))
      go_ret
      exact ⟨rfl, HR.out.base.bel⟩
set_option maxHeartbeats 3200000 in
theorem quits_bad (l : Pol.Lk) (t : Int) (x : Nat) (hz : wrap64 ((IntKind.u64.wrap t).tmod 10) = (x : Int)) (hx : x < 10) (hm : Pol.may l = false) (w : World) (ST : U.StepOk w) :
    Calls Tryz.prog 5 #[.agg (Pl.lcs l).toArray, .int .i64 t] w fun e w' => e = .returned (.bool true) ∧ Below w.heap.size w w' := by
  have hfine : Ng.fine l (1 + (x : Int)) = false := by
    unfold Ng.fine
    rw [hm]
    rfl
  have q1 : wrap64 (1 + (x : Int)) = 1 + (x : Int) := IntWalk.wrap64_in _ ⟨by omega, by omega⟩
  have N1 := Lib.hid fun W => side_none (W := W) l (1 + (x : Int)) hfine
  have MB := Lib.hid fun W => Pl.may_any l W
  rw [hm] at MB
  obtain ⟨w1, hw1⟩ : ∃ w1, w1 = w.alloc (.cells (Pl.lcs l).toArray 23) := ⟨_, rfl⟩
  have HB : Hid (Below w.heap.size w w1) := Lib.hid (hw1 ▸ (Below.refl w.heap.size w).alloc (Nat.le_refl _) _)
  have L1 : Hid (Pl.Lnk w.heap.size w1 l) := Lib.hid (hw1 ▸ Pl.Lnk.new w l)
  have AW := Lib.hid (awake_any w1 (U.StepOk.later ST HB.out))
  have NU := Lib.hid num_any
  clear hfine ST
  go_enter Tryz.func5, Tryz.ntmps5
  go_upto_region 1 with (fail)
  rw [← hw1]
  clear hw1
  go_wp2_with (first
    | (go_at_call 15; (refine AW.out.mono ?_); rintro e w2 ⟨rfl, hb⟩; have B2 := Lib.hid (bel2 HB.out hb); have L2 := Lib.hid (L1.out.below hb); clear hb)
    | (refine Pl.step_link rfl _ rfl w.heap.size l rfl (by with_reducible first | exact L2.out | exact L3.out) ?_)
    | (go_at_call 12; (refine (N1.out _).mono ?_); rintro e w3 ⟨rfl, hb⟩; have B3 := Lib.hid (bel2 B2.out hb); have L3 := Lib.hid (L2.out.below hb); clear hb)
    | (go_at_call 14; (refine (NU.out _ _).mono ?_); rintro e v1 ⟨rfl, rfl⟩)
    | (go_at_call 28; (refine (MB.out _).mono ?_); rintro e w4 ⟨rfl, hb⟩; have B4 := Lib.hid (bel2 B3.out hb); clear hb))
  go_ret
  exact ⟨rfl, B4.out⟩
theorem walk_quits (l : Pol.Lk) (t : Int) (w : World) (ST : U.StepOk w) : Calls Tryz.prog 5 #[Pl.lv l, .int .i64 t] w fun e w' => e = .returned (.bool true) ∧ Below w.heap.size w w' := by
  obtain ⟨x, hz, hx⟩ := U.by_mod t 10 (by decide) (by decide)
  cases hm : Pol.may l
  · exact quits_bad l t x hz (by omega) hm w ST
  · exact quits_good l t x hz (by omega) hm w ST
end Go.Proofs.YteabkmelnoefiaaGreatDoor.Ne
namespace Go.Proofs.YteabkmelnoefiaaGreatDoor.Ng
theorem form_code (l : Pol.Lk) (t e : Int) : (step (fresh l t) e).2.2 = if isEvent e = true then (if e = 1 ∨ e = 4 then 1501 else 0) else 1500 := by
  unfold step
  by_cases he : isEvent e = true
  · rw [if_pos he, if_pos he]
    have hb : 0 ≤ e ∧ e ≤ 4 := by
      unfold isEvent at he
      simpa using he
    have f0 : (Fsm.step 0 0).2.2 = 0 := by decide +kernel
    have f1 : (Fsm.step 0 1).2.2 ≠ 0 := by decide +kernel
    have f2 : (Fsm.step 0 2).2.2 = 0 := by decide +kernel
    have f3 : (Fsm.step 0 3).2.2 = 0 := by decide +kernel
    have f5 : (Fsm.step 0 5).2.2 ≠ 0 := by decide +kernel
    have hl : (fresh l t).left = 0 := rfl
    have hs : (fresh l t).st = 0 := rfl
    rw [hl]
    have : e = 0 ∨ e = 1 ∨ e = 2 ∨ e = 3 ∨ e = 4 := by omega
    rcases this with rfl | rfl | rfl | rfl | rfl
    · rw [if_neg (by decide), if_neg (by decide)]; unfold run; rw [hs, if_pos f0]
    · rw [if_neg (by decide), if_pos (by decide)]; unfold run; rw [hs, if_neg f1]
    · rw [if_neg (by decide), if_neg (by decide)]; unfold run; rw [hs, if_pos f2]
    · rw [if_neg (by decide), if_neg (by decide)]; unfold run; rw [hs, if_pos f3]
    · rw [if_pos (by decide), if_pos (by decide)]; unfold run; rw [hs, if_neg f5]
  · rw [if_neg he, if_neg he]
theorem form_take (l : Pol.Lk) (t : Int) : take (fresh l t) (1, 1, [], []) = (fresh l t, [], 1501) := by
  unfold take
  rw [if_neg (by decide), if_pos (.inl rfl)]
end Go.Proofs.YteabkmelnoefiaaGreatDoor.Ng
namespace Go.Proofs.YteabkmelnoefiaaGreatDoor.Ne
open Go.RowKit
set_option maxRecDepth 100000
set_option maxHeartbeats 6400000 in
theorem forms_good (l : Pol.Lk) (t ev : Int) (hm : Pol.may l = true) (h1 : 1 ≤ t) (h2 : t ≤ 10) (w : World) (ST : U.StepOk w) :
    Calls Tryz.prog 10 #[.agg (Pl.lcs l).toArray, .int .i64 t, .int .i64 ev] w fun e w' => e = .returned (.bool true) ∧ Below w.heap.size w w' := by
  have hfine : Ng.fine l t = true := by
    unfold Ng.fine
    rw [hm]
    simp only [Bool.true_and, Bool.and_eq_true, decide_eq_true_eq]
    omega
  have N1 := Lib.hid fun W (hb : Below w.heap.size w W) => side_new ST hb l t hfine
  have T1 := Lib.hid fun B W (h : Rep w B W (Ng.fresh l t)) => side_take h 1 1 (.slice none 0 0) [] [] (reads_nil W) (Nat.zero_le _) (Nat.zero_le _)
  rw [Ng.form_take] at T1
  have D1 := Lib.hid fun B W (h : Rep w B W (Ng.fresh l t)) => side_do h ev
  have hc := Ng.form_code l t ev
  obtain ⟨RR, hRR⟩ : ∃ R, R = Ng.step (Ng.fresh l t) ev := ⟨_, rfl⟩
  rw [← hRR] at D1 hc
  clear hRR
  obtain ⟨gS, psS, cS⟩ := RR
  dsimp only at hc D1
  have MB := Lib.hid fun W => Pl.may_any l W
  rw [hm] at MB
  generalize Ng.fresh l t = g0 at *
  obtain ⟨w1, hw1⟩ : ∃ w1, w1 = w.alloc (.cells (Pl.lcs l).toArray 23) := ⟨_, rfl⟩
  have HB : Hid (Below w.heap.size w w1) := Lib.hid (hw1 ▸ (Below.refl w.heap.size w).alloc (Nat.le_refl _) _)
  have L1 : Hid (Pl.Lnk w.heap.size w1 l) := Lib.hid (hw1 ▸ Pl.Lnk.new w l)
  have AW := Lib.hid (awake_any w1 (U.StepOk.later ST HB.out))
  have NU := Lib.hid num_any
  clear hfine ST
  by_cases he : Ng.isEvent ev = true
  · rw [if_pos he] at hc
    have hb : 0 ≤ ev ∧ ev ≤ 4 := by
      unfold Ng.isEvent at he
      simpa using he
    have hv : ev = 0 ∨ ev = 1 ∨ ev = 2 ∨ ev = 3 ∨ ev = 4 := by omega
    clear he hb
    rcases hv with rfl | rfl | rfl | rfl | rfl
    all_goals
      simp only [Int.reduceEq, or_self, or_false, or_true, if_true, if_false] at hc
      subst hc
      go_enter Tryz.func10, Tryz.ntmps10
      go_upto_region 1 with (fail)
      rw [← hw1]
      clear hw1
      go_wp2_with (first
        | (go_at_call 15; (refine AW.out.mono ?_); rintro e w2 ⟨rfl, hb⟩; have B2 := Lib.hid (bel2 HB.out hb); have L2 := Lib.hid (L1.out.below hb); clear hb)
        | (refine Pl.step_link rfl _ rfl w.heap.size l rfl (by with_reducible first | exact L2.out | exact L3.out) ?_)
        | (go_at_call 12; (refine (N1.out _ B2.out).mono ?_); rintro e w3 ⟨B, rfl, hB, hr, hb⟩; have R3 := Lib.hid hr; have L3 := Lib.hid (L2.out.below hb); clear hr hb hB)
        | (go_at_call 28; (refine (MB.out _).mono ?_); rintro e w4 ⟨rfl, hb⟩; have C4 := Lib.hid (T1.out _ _ (R3.out.below hb)); clear hb)
        | (go_at_call 14; (refine (NU.out _ _).mono ?_); rintro e v1 ⟨rfl, rfl⟩)
        | (go_at_call 21; (refine C4.out.mono ?_); rintro e w5 ⟨v5, rfl, hs⟩; obtain ⟨p5, c5, e5⟩ := hs.packs.form; subst e5; have C5 := Lib.hid (D1.out _ _ hs.rep); clear hs)
        | (go_at_call 16; (refine C5.out.mono ?_); rintro e w6 ⟨v6, rfl, hs⟩; have K6 : Hid (Below w.heap.size w w6) := Lib.hid hs.rep.base.bel; clear hs))
      go_ret
      exact ⟨rfl, K6.out⟩
  · rw [if_neg he] at hc
    have hb : ¬ (0 ≤ ev ∧ ev ≤ 4) := by
      unfold Ng.isEvent at he
      simpa using he
    have q0 : (ev == 0) = false := by rw [beq_eq_false_iff_ne]; omega
    have q1 : (ev == 1) = false := by rw [beq_eq_false_iff_ne]; omega
    have q2 : (ev == 2) = false := by rw [beq_eq_false_iff_ne]; omega
    have q3 : (ev == 3) = false := by rw [beq_eq_false_iff_ne]; omega
    have q4 : (ev == 4) = false := by rw [beq_eq_false_iff_ne]; omega
    subst hc
    clear he hb
    go_enter Tryz.func10, Tryz.ntmps10
    go_upto_region 1 with (fail)
    rw [← hw1]
    clear hw1
    go_wp2_with (first
      | (go_at_call 15; (refine AW.out.mono ?_); rintro e w2 ⟨rfl, hb⟩; have B2 := Lib.hid (bel2 HB.out hb); have L2 := Lib.hid (L1.out.below hb); clear hb)
      | (refine Pl.step_link rfl _ rfl w.heap.size l rfl (by with_reducible first | exact L2.out | exact L3.out) ?_)
      | (go_at_call 12; (refine (N1.out _ B2.out).mono ?_); rintro e w3 ⟨B, rfl, hB, hr, hb⟩; have R3 := Lib.hid hr; have L3 := Lib.hid (L2.out.below hb); clear hr hb hB)
      | (go_at_call 28; (refine (MB.out _).mono ?_); rintro e w4 ⟨rfl, hb⟩; have C4 := Lib.hid (T1.out _ _ (R3.out.below hb)); clear hb)
      | (go_at_call 14; (refine (NU.out _ _).mono ?_); rintro e v1 ⟨rfl, rfl⟩)
      | (go_at_call 21; (refine C4.out.mono ?_); rintro e w5 ⟨v5, rfl, hs⟩; obtain ⟨p5, c5, e5⟩ := hs.packs.form; subst e5; have C5 := Lib.hid (D1.out _ _ hs.rep); clear hs)
      | (go_at_call 16; (refine C5.out.mono ?_); rintro e w6 ⟨v6, rfl, hs⟩; have K6 : Hid (Below w.heap.size w w6) := Lib.hid hs.rep.base.bel; clear hs))
    go_ret
    exact ⟨rfl, K6.out⟩
set_option maxHeartbeats 6400000 in
theorem forms_bad (l : Pol.Lk) (t ev : Int) (w : World) (ST : U.StepOk w) (h : Ng.fine l t = false) :
    Calls Tryz.prog 10 #[.agg (Pl.lcs l).toArray, .int .i64 t, .int .i64 ev] w fun e w' => e = .returned (.bool true) ∧ Below w.heap.size w w' := by
  have N1 := Lib.hid fun W => side_none (W := W) l t h
  have MB := Lib.hid fun W => Pl.may_any l W
  obtain ⟨w1, hw1⟩ : ∃ w1, w1 = w.alloc (.cells (Pl.lcs l).toArray 23) := ⟨_, rfl⟩
  have HB : Hid (Below w.heap.size w w1) := Lib.hid (hw1 ▸ (Below.refl w.heap.size w).alloc (Nat.le_refl _) _)
  have L1 : Hid (Pl.Lnk w.heap.size w1 l) := Lib.hid (hw1 ▸ Pl.Lnk.new w l)
  have AW := Lib.hid (awake_any w1 (U.StepOk.later ST HB.out))
  have NU := Lib.hid num_any
  have hw : Pol.may l = false ∨ (Pol.may l = true ∧ ¬ 1 ≤ t) ∨ (Pol.may l = true ∧ 1 ≤ t ∧ ¬ t ≤ 10) := by
    unfold Ng.fine at h
    cases hm : Pol.may l
    · exact .inl rfl
    · rw [hm] at h
      simp only [Bool.true_and, Bool.and_eq_false_iff, decide_eq_false_iff_not] at h
      by_cases h1 : 1 ≤ t
      · exact .inr (.inr ⟨rfl, h1, by omega⟩)
      · exact .inr (.inl ⟨rfl, h1⟩)
  clear ST h
  have hw : Pol.may l = false ∨ (Pol.may l = true ∧ (1 ≤ t) = False) ∨ (Pol.may l = true ∧ (1 ≤ t) = True ∧ (t ≤ 10) = False) := by
    rcases hw with h | ⟨h, h1⟩ | ⟨h, h1, h2⟩
    · exact .inl h
    · exact .inr (.inl ⟨h, eq_false h1⟩)
    · exact .inr (.inr ⟨h, eq_true h1, eq_false h2⟩)
  rcases hw with hm | ⟨hm, h1⟩ | ⟨hm, h1, h2⟩
  all_goals
    rw [hm] at MB
    clear hm
    go_enter Tryz.func10, Tryz.ntmps10
    go_upto_region 1 with (fail)
    rw [← hw1]
    clear hw1
    go_wp2_with (first
      | (go_at_call 15; (refine AW.out.mono ?_); rintro e w2 ⟨rfl, hb⟩; have B2 := Lib.hid (bel2 HB.out hb); have L2 := Lib.hid (L1.out.below hb); clear hb)
      | (refine Pl.step_link rfl _ rfl w.heap.size l rfl (by with_reducible first | exact L2.out | exact L3.out) ?_)
      | (go_at_call 12; (refine (N1.out _).mono ?_); rintro e w3 ⟨rfl, hb⟩; have B3 := Lib.hid (bel2 B2.out hb); have L3 := Lib.hid (L2.out.below hb); clear hb)
      | (go_at_call 28; (refine (MB.out _).mono ?_); rintro e w4 ⟨rfl, hb⟩; have B4 := Lib.hid (bel2 B3.out hb); clear hb)
      | (go_at_call 14; (refine (NU.out _ _).mono ?_); rintro e v1 ⟨rfl, rfl⟩))
    go_ret
    exact ⟨rfl, B4.out⟩
theorem walk_forms (l : Pol.Lk) (t ev : Int) (w : World) (ST : U.StepOk w) : Calls Tryz.prog 10 #[Pl.lv l, .int .i64 t, .int .i64 ev] w fun e w' => e = .returned (.bool true) ∧ Below w.heap.size w w' := by
  cases hf : Ng.fine l t
  · exact forms_bad l t ev w ST hf
  · have h := hf
    unfold Ng.fine at h
    simp only [Bool.and_eq_true, decide_eq_true_eq] at h
    exact forms_good l t ev h.1.1 h.1.2 h.2 w ST
end Go.Proofs.YteabkmelnoefiaaGreatDoor.Ne
namespace Go.Proofs.YteabkmelnoefiaaGreatDoor.Ne
open Go.RowKit
set_option maxRecDepth 100000
theorem int_index_u (b off n cap k : Nat) (hk : k < n) (W : World) : (Instr.indexAt 55 (.slice (some ⟨b, off, none⟩) n cap) (.int .u64 (k : Int))).run Tryz.prog W = .ok (.pointer (some ⟨b, off + k, none⟩)) W := by
  have hs : (sizeOf (Tryz.prog.elem 55)).run Tryz.prog W = .ok 1 W := Tryz.sizeOf3 W
  have e := run_indexAt_slice (P := Tryz.prog) W 55 ⟨b, off, none⟩ n cap .u64 (k : Int) Tryz.underlying55
  rw [if_pos (by omega), hs] at e
  simp only [Result.andThen, Int.toNat_natCast] at e
  rw [e, Nat.mul_one, add_at]
theorem mod_u (z : Int) (n : Int) (h0 : 0 < n) (h1 : n ≤ 1000) : ∃ x : Nat, (IntKind.u64.wrap z).tmod n = (x : Int) ∧ (x : Int) < n := by
  have hz : 0 ≤ IntKind.u64.wrap z := by
    show 0 ≤ z % 18446744073709551616
    omega
  generalize IntKind.u64.wrap z = y at *
  have hm : y.tmod n = y % n := Int.tmod_eq_emod_of_nonneg hz
  have a1 := Int.emod_nonneg y (show n ≠ 0 by omega)
  have a2 := Int.emod_lt_of_pos y h0
  exact ⟨(y % n).toNat, by omega, by omega⟩
theorem Rep.drew {w0 : World} {B : Nat} {W : World} {g : Ng.Side} (h : Rep w0 B W g) : Rep w0 B W.drew g := h.below (Below.refl W.heap.size W).drew
def lvx (l : Pol.Lk) : Value := .agg #[.int .i64 l.mru, .int .i64 l.magic, .int .i64 l.mrru, .bool l.short, .string ⟨l.disc.toArray⟩, .int .i64 l.num]
set_option maxHeartbeats 12800000 in
theorem stale_good (l : Pol.Lk) (id cd : Int) (hm : Pol.may l = true) (w : World) (ST : U.StepOk w) :
    Calls Tryz.prog 9 #[.agg (Pl.lcs l).toArray, .int .i64 id, .int .i64 cd] w fun e w' => e = .returned (.bool true) ∧ Below w.heap.size w w' := by
  have hfine : Ng.fine l 8 = true := by
    unfold Ng.fine
    rw [hm]
    rfl
  obtain ⟨x, hx, hx2⟩ := U.by_mod id 255 (by decide) (by decide)
  obtain ⟨k, hk, hk2⟩ := mod_u cd 3 (by decide) (by decide)
  obtain ⟨y, hy⟩ : ∃ y : Int, y = (2 + (x : Int)) % 256 := ⟨_, rfl⟩
  have hyr : 0 ≤ y ∧ y ≤ 255 ∧ y ≠ 1 := by omega
  have q1 : wrap64 (2 + (x : Int)) = 2 + (x : Int) := IntWalk.wrap64_in _ ⟨by omega, by omega⟩
  have q2 : bits BinOp.and IntKind.i64 (2 + (x : Int)) 255 = y := by rw [hy]; exact i64_and255 _
  have TK := Ng.stale l 8 (2 + (k : Int), y, Pol.asks l, []) (Ng.code_asks l hm (2 + (k : Int)) y (by omega) ⟨hyr.1, hyr.2.1⟩) (show (2 + (k : Int) = 2 ∨ 2 + (k : Int) = 3 ∨ 2 + (k : Int) = 4) by omega) hyr.2.2
  have hask : (Pol.ask l).1 = Pol.asks l := Ng.ask_may l hm
  obtain ⟨U2, U3⟩ := Ng.up_asks l 8
  rw [hask] at U2
  have hgs : (Ng.asking l 8).st = 6 ∧ (Ng.asking l 8).left = 7 ∧ (Ng.asking l 8).own = l := ⟨rfl, rfl, rfl⟩
  obtain ⟨g1, hg1⟩ : ∃ g, g = (Ng.step (Ng.fresh l 8) 2).1 := ⟨_, rfl⟩
  have hU2 : Ng.step (Ng.fresh l 8) 2 = (g1, [], 0) := by rw [hg1, ← U3]
  rw [← hg1] at U2
  have N1 := Lib.hid fun W (hb : Below w.heap.size w W) => side_new ST hb l 8 hfine
  have D1 := Lib.hid fun B W (h : Rep w B W (Ng.fresh l 8)) => side_do h 2
  have D2 := Lib.hid fun B W (h : Rep w B W g1) => side_do h 0
  rw [hU2] at D1
  rw [U2] at D2
  have hal := Pol.asks_length l
  have T1 := Lib.hid fun B W u (h : Rep w B W (Ng.asking l 8)) (hr : ReadsO W u (Pol.asks l)) => side_take h (2 + (k : Int)) y u (Pol.asks l) [] hr (by omega) (Nat.zero_le _)
  rw [TK] at T1
  have SS := Lib.hid fun B W (h : Rep w B W (Ng.asking l 8)) => side_state h
  have SL := Lib.hid fun B W (h : Rep w B W (Ng.asking l 8)) => side_left h
  have SO := Lib.hid fun B W (h : Rep w B W (Ng.asking l 8)) => side_own h
  rw [hgs.1] at SS
  rw [hgs.2.1] at SL
  rw [hgs.2.2] at SO
  have SO : Hid (∀ B W, Rep w B W (Ng.asking l 8) → Calls Tryz.prog 25 #[.pointer (some ⟨B, 0, none⟩)] W fun e W' => e = .returned (.agg #[.int .i64 l.mru, .int .i64 l.magic, .int .i64 l.mrru, .bool l.short, .string ⟨l.disc.toArray⟩, .int .i64 l.num]) ∧ Below W.heap.size W W') := SO
  have e1 : ∀ W : World, (binOp .eql 23 (.agg #[.int .i64 l.mru, .int .i64 l.magic, .int .i64 l.mrru, .bool l.short, .string ⟨l.disc.toArray⟩, .int .i64 l.num]) (.agg #[.int .i64 l.mru, .int .i64 l.magic, .int .i64 l.mrru, .bool l.short, .string ⟨l.disc.toArray⟩, .int .i64 l.num])).run Tryz.prog W = .ok (.bool true) W := by have h := (Pl.eqL_any l l).2.2; rw [decide_eq_true rfl] at h; exact h
  have e2 : ∀ op x y (W : World), (eqGuard op 23 x y (.agg #[.int .i64 l.mru, .int .i64 l.magic, .int .i64 l.mrru, .bool l.short, .string ⟨l.disc.toArray⟩, .int .i64 l.num]) (.agg #[.int .i64 l.mru, .int .i64 l.magic, .int .i64 l.mrru, .bool l.short, .string ⟨l.disc.toArray⟩, .int .i64 l.num])).run Tryz.prog W = .ok () W := fun op x y W => Pl.guard_lv op x y l l W
  generalize Ng.fresh l 8 = g0 at *
  generalize Ng.asking l 8 = g2 at *
  obtain ⟨w1, hw1⟩ : ∃ w1, w1 = w.alloc (.cells (Pl.lcs l).toArray 23) := ⟨_, rfl⟩
  have HB : Hid (Below w.heap.size w w1) := Lib.hid (hw1 ▸ (Below.refl w.heap.size w).alloc (Nat.le_refl _) _)
  have L1 : Hid (Pl.Lnk w.heap.size w1 l) := Lib.hid (hw1 ▸ Pl.Lnk.new w l)
  have AW := Lib.hid (awake_any w1 (U.StepOk.later ST HB.out))
  have NU := Lib.hid num_any
  clear hfine ST hm hyr hy TK hask U2 U3 hgs hg1 hU2
  go_enter Tryz.func9, Tryz.ntmps9
  go_upto_region 1 with (fail)
  rw [← hw1]
  clear hw1
  go_upto_region 11 with (first
    | (go_at_call 15; (refine AW.out.mono ?_); rintro e w2 ⟨rfl, hb⟩; have B2 := Lib.hid (bel2 HB.out hb); have L2 := Lib.hid (L1.out.below hb); clear hb)
    | (refine Pl.step_link rfl _ rfl w.heap.size l rfl L2.out ?_)
    | (go_at_call 12; (refine (N1.out _ B2.out).mono ?_); rintro e w3 ⟨B, rfl, hB, hr, hb⟩; have C1 := Lib.hid (D1.out _ _ hr); have L3 := Lib.hid (L2.out.below hb); have LB := Lib.hid (show ¬ One B w.heap.size from fun e => by have e : w.heap.size = B := e; have := L2.out.lt; omega); clear hr hb hB)
    | (go_at_call 14; (refine (NU.out _ _).mono ?_); rintro e v1 ⟨rfl, rfl⟩)
    | (go_at_call 16; (with_reducible refine C1.out.mono ?_); rintro e w4 ⟨v4, rfl, hs⟩; have C2 := Lib.hid (D2.out _ _ hs.rep); have L4 := Lib.hid (Arr.chg L3.out hs.chg LB.out); have LT4 := Lib.hid hs.rep.lt; clear hs)
    | (go_at_call 16; (with_reducible refine C2.out.mono ?_); rintro e w5 ⟨v5, rfl, hs⟩; have R5 := Lib.hid hs.rep; have L5 := Lib.hid (Arr.chg L4.out hs.chg LB.out); obtain ⟨ga, ca, ua, ea, hga, za, a0, a1, a2, a3, hra⟩ := packs_one hs.packs; subst ea; have RA := Lib.hid hra; have GA := Lib.hid hga; have ia := first_index ga ca; have A2 := Lib.hid a2; clear hs hra hga a0 a2 a3))
  clear a1
  have B6 := Lib.hid ((Below.refl w5.heap.size w5).alloc (Nat.le_refl _) (.cells #[.int .i64 2, .int .i64 3, .int .i64 4] 3))
  obtain ⟨w6, hw6⟩ : ∃ w6, w6 = w5.alloc (.cells #[.int .i64 2, .int .i64 3, .int .i64 4] 3) := ⟨_, rfl⟩
  have K6 : Hid (Arr w5.heap.size w6 [.int .i64 2, .int .i64 3, .int .i64 4]) := Lib.hid (hw6 ▸ Arr.new w5 [.int .i64 2, .int .i64 3, .int .i64 4] 3)
  rw [← hw6] at B6
  have R6 := Lib.hid (R5.out.below B6.out)
  have U6 := Lib.hid (RA.out.below B6.out)
  have L6 := Lib.hid (L5.out.below B6.out)
  have hkc : [Value.int .i64 2, .int .i64 3, .int .i64 4][k]? = some (.int .i64 (2 + (k : Int))) := by
    have : k = 0 ∨ k = 1 ∨ k = 2 := by omega
    rcases this with rfl | rfl | rfl <;> rfl
  have ik := fun W => int_index_u w5.heap.size 0 3 3 k (by omega) W
  rw [Nat.zero_add] at ik
  have z6 := R6.out.lt
  have hgB : Hid (¬ One B ga) := Lib.hid fun e => by have e : ga = B := e; have := GA.out; have := LT4.out; omega
  have hcB : Hid (¬ One B w5.heap.size) := Lib.hid fun e => by have e : w5.heap.size = B := e; have := R5.out.lt; omega
  have SJ : Hid (∀ a, Chg (One B) w6 a → a.cell? ⟨w5.heap.size, k, none⟩ = some (.int .i64 (2 + (k : Int))) ∧ a.cell? ⟨ga, 2, none⟩ = some ua) := Lib.hid fun a c => ⟨(K6.out.chg c hcB.out).cell k _ hkc, by
    have h2 := cell_below A2.out B6.out
    exact (World.cell?_of_block (a := ⟨ga, 2, none⟩) (c.kept ga (block_lt_of_cell h2) hgB.out)).trans h2⟩
  have C0 : Hid (Chg (One B) w6 w6.drew) := Lib.hid (Chg.of_below (Below.refl w6.heap.size w6).drew)
  have CT := Lib.hid (T1.out B w6.drew ua R6.out.drew U6.out.reads.drew)
  obtain ⟨pu, cu, hu⟩ := U6.out.form
  subst hu
  subst hw6
  go_upto_region 12 with (fail)
  go_region_held (fun a => a.cell? ⟨w5.heap.size, k, none⟩ = some (.int .i64 (2 + (k : Int))) ∧ a.cell? ⟨ga, 2, none⟩ = some (.slice pu (Pol.asks l).length cu))
    (with_reducible (first | assumption | exact hS7 | exact SJ.out _ C0.out))
    (first | (go_at_call 21; (refine CT.out.mono ?_); rintro e w7 ⟨v7, rfl, hs⟩; have c7 := C0.out.trans hs.chg; have hS7 := SJ.out w7 c7; have R7 := Lib.hid hs.rep; have L7 := Lib.hid (Arr.chg L6.out c7 LB.out); obtain ⟨p7, d7, e7⟩ := hs.packs.form; subst e7; clear hs c7))
  go_upto_region 13 with (fail)
  have SM : Hid (∀ a, Below w7.heap.size w7 a → (a.cell? ⟨w.heap.size, 0, none⟩ = some (.int .i64 l.mru) ∧ a.cell? ⟨w.heap.size, 1, none⟩ = some (.int .i64 l.magic) ∧ a.cell? ⟨w.heap.size, 2, none⟩ = some (.int .i64 l.mrru) ∧ a.cell? ⟨w.heap.size, 3, none⟩ = some (.bool l.short) ∧ a.cell? ⟨w.heap.size, 4, none⟩ = some (.string ⟨l.disc.toArray⟩) ∧ a.cell? ⟨w.heap.size, 5, none⟩ = some (.int .i64 l.num)) ∧ Below w7.heap.size w7 a) := Lib.hid fun a b => ⟨⟨(Arr.below L7.out b).cell 0 _ rfl, (Arr.below L7.out b).cell 1 _ rfl, (Arr.below L7.out b).cell 2 _ rfl, (Arr.below L7.out b).cell 3 _ rfl, (Arr.below L7.out b).cell 4 _ rfl, (Arr.below L7.out b).cell 5 _ rfl⟩, b⟩
  go_region_held (fun a => (a.cell? ⟨w.heap.size, 0, none⟩ = some (.int .i64 l.mru) ∧ a.cell? ⟨w.heap.size, 1, none⟩ = some (.int .i64 l.magic) ∧ a.cell? ⟨w.heap.size, 2, none⟩ = some (.int .i64 l.mrru) ∧ a.cell? ⟨w.heap.size, 3, none⟩ = some (.bool l.short) ∧ a.cell? ⟨w.heap.size, 4, none⟩ = some (.string ⟨l.disc.toArray⟩) ∧ a.cell? ⟨w.heap.size, 5, none⟩ = some (.int .i64 l.num)) ∧ Below w7.heap.size w7 a)
    (with_reducible (first | assumption | exact hS8 | exact SM.out _ (Below.refl _ w7).drew))
    (first
      | (go_at_call 14; (refine (NU.out _ _).mono ?_); rintro e v1 ⟨rfl, rfl⟩)
      | (go_at_call 24; (refine (SS.out B w7.drew R7.out.drew).mono ?_); rintro e v1 ⟨rfl, rfl⟩)
      | (go_at_call 25; (refine (SO.out B w7.drew R7.out.drew).mono ?_); rintro e w8 ⟨rfl, hb⟩; have hb8 : Below w7.heap.size w7 w8 := ⟨hb.os, hb.tape, hb.output, hb.size, hb.block⟩; have hS8 := SM.out w8 hb8; have R8 := Lib.hid (R7.out.below hb8); clear hb hb8)
      | (go_at_call 27; (refine (SL.out B w8 R8.out).mono ?_); rintro e v1 ⟨rfl, rfl⟩))
  go_wp2_with fail
  go_ret
  exact ⟨rfl, R8.out.base.bel⟩
set_option maxHeartbeats 3200000 in
theorem stale_bad (l : Pol.Lk) (id cd : Int) (hm : Pol.may l = false) (w : World) (ST : U.StepOk w) :
    Calls Tryz.prog 9 #[.agg (Pl.lcs l).toArray, .int .i64 id, .int .i64 cd] w fun e w' => e = .returned (.bool true) ∧ Below w.heap.size w w' := by
  have hfine : Ng.fine l 8 = false := by
    unfold Ng.fine
    rw [hm]
    rfl
  have N1 := Lib.hid fun W => side_none (W := W) l 8 hfine
  have MB := Lib.hid fun W => Pl.may_any l W
  rw [hm] at MB
  obtain ⟨w1, hw1⟩ : ∃ w1, w1 = w.alloc (.cells (Pl.lcs l).toArray 23) := ⟨_, rfl⟩
  have HB : Hid (Below w.heap.size w w1) := Lib.hid (hw1 ▸ (Below.refl w.heap.size w).alloc (Nat.le_refl _) _)
  have L1 : Hid (Pl.Lnk w.heap.size w1 l) := Lib.hid (hw1 ▸ Pl.Lnk.new w l)
  have AW := Lib.hid (awake_any w1 (U.StepOk.later ST HB.out))
  have NU := Lib.hid num_any
  clear hfine ST
  go_enter Tryz.func9, Tryz.ntmps9
  go_upto_region 1 with (fail)
  rw [← hw1]
  clear hw1
  go_wp2_with (first
    | (go_at_call 15; (refine AW.out.mono ?_); rintro e w2 ⟨rfl, hb⟩; have B2 := Lib.hid (bel2 HB.out hb); have L2 := Lib.hid (L1.out.below hb); clear hb)
    | (refine Pl.step_link rfl _ rfl w.heap.size l rfl (by with_reducible first | exact L2.out | exact L3.out) ?_)
    | (go_at_call 12; (refine (N1.out _).mono ?_); rintro e w3 ⟨rfl, hb⟩; have B3 := Lib.hid (bel2 B2.out hb); have L3 := Lib.hid (L2.out.below hb); clear hb)
    | (go_at_call 14; (refine (NU.out _ _).mono ?_); rintro e v1 ⟨rfl, rfl⟩)
    | (go_at_call 28; (refine (MB.out _).mono ?_); rintro e w4 ⟨rfl, hb⟩; have B4 := Lib.hid (bel2 B3.out hb); clear hb))
  go_ret
  exact ⟨rfl, B4.out⟩
theorem walk_stale (l : Pol.Lk) (id cd : Int) (w : World) (ST : U.StepOk w) : Calls Tryz.prog 9 #[Pl.lv l, .int .i64 id, .int .i64 cd] w fun e w' => e = .returned (.bool true) ∧ Below w.heap.size w w' := by
  cases hm : Pol.may l
  · exact stale_bad l id cd hm w ST
  · exact stale_good l id cd hm w ST
end Go.Proofs.YteabkmelnoefiaaGreatDoor.Ne
namespace Go.Proofs.YteabkmelnoefiaaGreatDoor.Ne
open Go.RowKit
set_option maxRecDepth 100000
/-- One option out of a slice of them. -/
theorem slice_one {v : Value} {os : List Opt.Op} {W : World} (h : ReadsO W v os) (k : Nat) (hk : k < os.length) :
    ∃ p cap, (∀ W', (Instr.slice 34 v (some (.int .i64 (k : Int))) (some (.int .i64 ((k : Int) + 1))) none).run Tryz.prog W' = .ok (.slice p 1 cap) W') ∧ ReadsO W (.slice p 1 cap) [os[k]] := by
  have hs : ∀ W', (sizeOf (Tryz.prog.elem 34)).run Tryz.prog W' = .ok 2 W' := fun W' => Tryz.sizeOf82 W'
  rcases h with ⟨rfl, _⟩ | ⟨b, off, cap, rfl, hle, hc⟩
  · simp at hk
  · refine ⟨some ⟨b, off + k * 2, none⟩, cap - k, fun W' => ?_, ?_⟩
    · rw [run_slice_lh (P := Tryz.prog) W' 34 (some ⟨b, off, none⟩) os.length cap Tryz.underlying34 .i64 .i64 (k : Int) ((k : Int) + 1) (by omega) (by omega) (by omega), hs]
      have e : cap - k ≠ 0 := by omega
      have e2 : ((k : Int) + 1).toNat = k + 1 := by omega
      simp [Result.andThen, sliced, add_lit, e2]
      try omega
    · refine .inr ⟨b, off + k * 2, cap - k, rfl, by show 1 ≤ cap - k; omega, fun j u hj => ?_⟩
      obtain ⟨c0, c1⟩ := cellsO_at os k hk
      have h0 := hc _ _ c0
      have h1 := hc _ _ c1
      rw [show 2 * k = k * 2 by omega] at h0 h1
      match j, hj with
      | 0, hj => cases hj; exact h0
      | 1, hj => cases hj; rw [Nat.add_assoc]; exact h1
set_option maxHeartbeats 12800000 in
theorem learns_good (l : Pol.Lk) (t : Int) (hm : Pol.may l = true) (hne : (Pol.asks l).length ≠ 0) (w : World) (ST : U.StepOk w) :
    Calls Tryz.prog 11 #[.agg (Pl.lcs l).toArray, .int .i64 t] w fun e w' => e = .returned (.bool true) ∧ Below w.heap.size w w' := by
  have hfine : Ng.fine l 8 = true := by
    unfold Ng.fine
    rw [hm]
    rfl
  have hal := Pol.asks_length l
  obtain ⟨n, hn⟩ : ∃ n, n = (Pol.asks l).length := ⟨_, rfl⟩
  obtain ⟨k, hk, hk2⟩ := U.by_mod t (n : Int) (by omega) (by omega)
  have hkn : k < (Pol.asks l).length := by omega
  have hnw : IntKind.u64.wrap (n : Int) = (n : Int) := by
    show (n : Int) % 18446744073709551616 = n
    omega
  obtain ⟨l2, hm2, hcnt, t1, t2, t3⟩ := Ng.learns_one l hm 8 ((Pol.asks l)[k]) (List.getElem_mem hkn)
  have hask : (Pol.ask l).1 = Pol.asks l := Ng.ask_may l hm
  obtain ⟨U2, U3⟩ := Ng.up_asks l 8
  rw [hask] at U2
  obtain ⟨g1, hg1⟩ : ∃ g, g = (Ng.step (Ng.fresh l 8) 2).1 := ⟨_, rfl⟩
  have hU2 : Ng.step (Ng.fresh l 8) 2 = (g1, [], 0) := by rw [hg1, ← U3]
  rw [← hg1] at U2
  have N1 := Lib.hid fun W (hb : Below w.heap.size w W) => side_new ST hb l 8 hfine
  have D1 := Lib.hid fun B W (h : Rep w B W (Ng.fresh l 8)) => side_do h 2
  have D2 := Lib.hid fun B W (h : Rep w B W g1) => side_do h 0
  rw [hU2] at D1
  rw [U2] at D2
  obtain ⟨o, ho⟩ : ∃ o, o = (Pol.asks l)[k] := ⟨_, rfl⟩
  rw [← ho] at t1
  have T1 := Lib.hid fun B W u (h : Rep w B W (Ng.asking l 8)) (hr : ReadsO W u [o]) => side_take h 4 1 u [o] [] hr (by simp) (Nat.zero_le _)
  rw [t1] at T1
  generalize Ng.asking l 8 = g2 at *
  have hal2 := Pol.asks_length l2
  have T2 := Lib.hid fun B W u (h : Rep w B W (Ng.mk 6 l2 Pol.zero (Ng.less 8) 8 2)) (hr : ReadsO W u (Pol.asks l2)) => side_take h 2 2 u (Pol.asks l2) [] hr (by omega) (Nat.zero_le _)
  generalize Ng.mk 6 l2 Pol.zero (Ng.less 8) 8 2 = g3 at *
  obtain ⟨RR, hRR⟩ : ∃ R, R = Ng.take g3 (2, 2, Pol.asks l2, []) := ⟨_, rfl⟩
  rw [← hRR] at T2 t2 t3
  clear hRR
  obtain ⟨g4, ps4, c4⟩ := RR
  obtain ⟨rfl, rfl⟩ := Prod.mk.inj t3
  dsimp only at t2
  have SS := Lib.hid fun B W (h : Rep w B W g4) => side_state h
  rw [t2] at SS
  generalize Ng.fresh l 8 = g0 at *
  have HSL : Hid (∀ W v, ReadsO W v (Pol.asks l) → ∃ p cap, (∀ W', (Instr.slice 34 v (some (.int .i64 (k : Int))) (some (.int .i64 ((k : Int) + 1))) none).run Tryz.prog W' = .ok (.slice p 1 cap) W') ∧ ReadsO W (.slice p 1 cap) [o]) := Lib.hid fun W v h => ho ▸ slice_one h k hkn
  generalize Pol.asks l = os at *
  generalize Pol.asks l2 = os2 at *
  obtain ⟨n2, hn2⟩ : ∃ n2, n2 = os2.length := ⟨_, rfl⟩
  have qa : wrap64 ((n : Int) - 1) = (n2 : Int) := by rw [IntWalk.wrap64_in _ ⟨by omega, by omega⟩]; omega
  have qb : wrap64 ((k : Int) + 1) = (k : Int) + 1 := IntWalk.wrap64_in _ ⟨by omega, by omega⟩
  have qd : IntKind.i64.wrap ((k : Int) + 1) = (k : Int) + 1 := IntWalk.i64_in _ (by omega)
  have qe : IntKind.i64.wrap ((n : Int) - 1) = (n2 : Int) := by rw [IntWalk.i64_in _ (by omega)]; omega
  have qc : ((n : Int) == 0) = false := by rw [beq_eq_false_iff_ne]; omega
  obtain ⟨w1, hw1⟩ : ∃ w1, w1 = w.alloc (.cells (Pl.lcs l).toArray 23) := ⟨_, rfl⟩
  have HB : Hid (Below w.heap.size w w1) := Lib.hid (hw1 ▸ (Below.refl w.heap.size w).alloc (Nat.le_refl _) _)
  have L1 : Hid (Pl.Lnk w.heap.size w1 l) := Lib.hid (hw1 ▸ Pl.Lnk.new w l)
  have AW := Lib.hid (awake_any w1 (U.StepOk.later ST HB.out))
  have NU := Lib.hid num_any
  have HN := Lib.hid hn
  have HN2 := Lib.hid hn2
  clear hfine ST hm hm2 hask U2 U3 hg1 hU2 t1 t2 t3 ho hkn hcnt hal hal2 hn hn2 hne
  go_enter Tryz.func11, Tryz.ntmps11
  go_upto_region 1 with (fail)
  rw [← hw1]
  clear hw1
  go_upto_region 10 with (first
    | (go_at_call 15; (refine AW.out.mono ?_); rintro e w2 ⟨rfl, hb⟩; have B2 := Lib.hid (bel2 HB.out hb); have L2 := Lib.hid (L1.out.below hb); clear hb)
    | (refine Pl.step_link rfl _ rfl w.heap.size l rfl L2.out ?_)
    | (go_at_call 12; (refine (N1.out _ B2.out).mono ?_); rintro e w3 ⟨B, rfl, hB, hr, hb⟩; have C1 := Lib.hid (D1.out _ _ hr); clear hr hb hB)
    | (go_at_call 14; (refine (NU.out _ _).mono ?_); rintro e v1 ⟨rfl, rfl⟩)
    | (go_at_call 16; (with_reducible refine C1.out.mono ?_); rintro e w4 ⟨v4, rfl, hs⟩; have C2 := Lib.hid (D2.out _ _ hs.rep); have LT4 := Lib.hid hs.rep.lt; clear hs)
    | (go_at_call 16; (with_reducible refine C2.out.mono ?_); rintro e w5 ⟨v5, rfl, hs⟩; have R5 := Lib.hid hs.rep; obtain ⟨ga, ca, ua, ea, hga, za, a0, a1, a2, a3, hra⟩ := packs_one hs.packs; subst ea; have RA := Lib.hid hra; have ia := first_index ga ca; have hgB : Hid (¬ One B ga) := Lib.hid (fun e => by have e : ga = B := e; have := LT4.out; omega); obtain ⟨pu, cu, hu⟩ := hra.form; subst hu; have A1 := Lib.hid a1; have A2 := Lib.hid a2; clear hs hra hga a0 a1 a2 a3))
  have a2 := A2.out
  rw [← HN.out] at a2
  go_upto_region 13 with (fail)
  clear a2
  obtain ⟨va, hva⟩ : ∃ va : Value, va = .slice pu os.length cu := ⟨_, rfl⟩
  have A4 : Hid (w5.cell? ⟨ga, 2, none⟩ = some va) := Lib.hid (by rw [hva]; exact A2.out)
  obtain ⟨ps, cs, hsl, hrs⟩ := HSL.out w5 va (by rw [hva]; exact RA.out.reads)
  have HRS := Lib.hid hrs
  have HVA := Lib.hid hva
  clear hrs hva
  have SJ : Hid (∀ a, Chg (One B) w5 a → a.cell? ⟨ga, 1, none⟩ = some (.int .i64 1) ∧ a.cell? ⟨ga, 2, none⟩ = some va) := Lib.hid fun a c =>
    ⟨(World.cell?_of_block (a := ⟨ga, 1, none⟩) (c.kept ga (block_lt_of_cell A1.out) hgB.out)).trans A1.out, (World.cell?_of_block (a := ⟨ga, 2, none⟩) (c.kept ga (block_lt_of_cell A4.out) hgB.out)).trans A4.out⟩
  have C0 : Hid (Chg (One B) w5 w5.drew) := Lib.hid (Chg.of_below (Below.refl w5.heap.size w5).drew)
  have CT := Lib.hid (T1.out B w5.drew _ R5.out.drew HRS.out.drew)
  have LT5 := Lib.hid R5.out.lt
  go_region_held (fun a => a.cell? ⟨ga, 1, none⟩ = some (.int .i64 1) ∧ a.cell? ⟨ga, 2, none⟩ = some va)
    (with_reducible (first | assumption | exact hS7 | exact SJ.out _ C0.out))
    (first | (go_at_call 21; (refine CT.out.mono ?_); rintro e w7 ⟨v7, rfl, hs⟩; have c7 := C0.out.trans hs.chg; have hS7 := SJ.out w7 c7; have R7 := Lib.hid hs.rep; obtain ⟨gb, cb, ub, eb, hgb, zb, b0, b1, b2, b3, hrb⟩ := packs_one hs.packs; subst eb; have RB := Lib.hid hrb; have ib := first_index gb cb; have hgB2 : Hid (¬ One B gb) := Lib.hid (fun e => by have e : gb = B := e; have := LT5.out; have e2 : w5.drew.heap.size = w5.heap.size := rfl; omega); obtain ⟨px, cx, hx⟩ := hrb.form; subst hx; have S7 : Hid (w7.cell? ⟨ga, 2, none⟩ = some (.slice pu n cu)) := Lib.hid (by rw [HN.out, ← HVA.out]; exact hS7.2); have Q0 := Lib.hid b0; have Q1 := Lib.hid b1; have Q2 := Lib.hid b2; clear hs c7 hrb hgb b0 b1 b2 b3))
  go_upto_region 14 with (fail)
  have SM : Hid (∀ a, Below w7.heap.size w7 a → a.cell? ⟨ga, 2, none⟩ = some (.slice pu n cu) ∧ a.cell? ⟨gb, 0, none⟩ = some (.int .i64 1) ∧ a.cell? ⟨gb, 1, none⟩ = some (.int .i64 2) ∧ a.cell? ⟨gb, 2, none⟩ = some (.slice px n2 cx)) := Lib.hid fun a b => by
    rw [HN2.out]
    exact ⟨cell_below S7.out b, cell_below Q0.out b, cell_below Q1.out b, cell_below Q2.out b⟩
  go_region_held (fun a => a.cell? ⟨ga, 2, none⟩ = some (.slice pu n cu) ∧ a.cell? ⟨gb, 0, none⟩ = some (.int .i64 1) ∧ a.cell? ⟨gb, 1, none⟩ = some (.int .i64 2) ∧ a.cell? ⟨gb, 2, none⟩ = some (.slice px n2 cx))
    (with_reducible (first | assumption | exact SM.out _ (Below.refl _ w7).drew))
    (first | (go_at_call 14; (refine (NU.out _ _).mono ?_); rintro e v1 ⟨rfl, rfl⟩))
  go_upto_region 16 with (fail)
  have S2 : Hid (∀ a, Chg (One B) w7 a → a.cell? ⟨gb, 1, none⟩ = some (.int .i64 2) ∧ a.cell? ⟨gb, 2, none⟩ = some (.slice px n2 cx)) := Lib.hid fun a c => by
    rw [HN2.out]
    exact ⟨(World.cell?_of_block (a := ⟨gb, 1, none⟩) (c.kept gb (block_lt_of_cell Q1.out) hgB2.out)).trans Q1.out, (World.cell?_of_block (a := ⟨gb, 2, none⟩) (c.kept gb (block_lt_of_cell Q2.out) hgB2.out)).trans Q2.out⟩
  have C2 : Hid (Chg (One B) w7 w7.drew.drew) := Lib.hid (Chg.of_below (Below.refl w7.heap.size w7).drew.drew)
  have CU : Hid (Calls Tryz.prog 21 #[.pointer (some ⟨B, 0, none⟩), .agg #[.int .i64 2, .int .i64 2, .slice px n2 cx, .string ⟨#[]⟩]] w7.drew.drew (Answers w B w7.drew.drew (g4, [], 0))) := Lib.hid (by rw [HN2.out]; exact T2.out B w7.drew.drew _ R7.out.drew.drew RB.out.reads.drew.drew)
  go_region_held (fun a => a.cell? ⟨gb, 1, none⟩ = some (.int .i64 2) ∧ a.cell? ⟨gb, 2, none⟩ = some (.slice px n2 cx))
    (with_reducible (first | assumption | exact hS9 | exact S2.out _ C2.out))
    (first | (go_at_call 21; (refine CU.out.mono ?_); rintro e w9 ⟨v9, rfl, hs⟩; have hS9 := S2.out w9 (C2.out.trans hs.chg); have R9 := Lib.hid hs.rep; obtain ⟨p9, d9, e9⟩ := hs.packs.form; subst e9; clear hs))
  have S9 := Lib.hid (SS.out B w9 R9.out)
  go_wp2_with (first
    | (go_at_call 14; (refine (NU.out _ _).mono ?_); rintro e v1 ⟨rfl, rfl⟩)
    | (go_at_call 24; (refine S9.out.mono ?_); rintro e v1 ⟨rfl, rfl⟩))
  go_ret
  exact ⟨rfl, R9.out.base.bel⟩
set_option maxHeartbeats 3200000 in
theorem learns_empty (l : Pol.Lk) (t : Int) (hm : Pol.may l = true) (hne : (Pol.asks l).length = 0) (w : World) (ST : U.StepOk w) :
    Calls Tryz.prog 11 #[.agg (Pl.lcs l).toArray, .int .i64 t] w fun e w' => e = .returned (.bool true) ∧ Below w.heap.size w w' := by
  have hfine : Ng.fine l 8 = true := by
    unfold Ng.fine
    rw [hm]
    rfl
  have hask : (Pol.ask l).1 = [] := by rw [Ng.ask_may l hm]; exact List.length_eq_zero_iff.1 hne
  obtain ⟨U2, U3⟩ := Ng.up_asks l 8
  rw [hask] at U2
  obtain ⟨g1, hg1⟩ : ∃ g, g = (Ng.step (Ng.fresh l 8) 2).1 := ⟨_, rfl⟩
  have hU2 : Ng.step (Ng.fresh l 8) 2 = (g1, [], 0) := by rw [hg1, ← U3]
  rw [← hg1] at U2
  have N1 := Lib.hid fun W (hb : Below w.heap.size w W) => side_new ST hb l 8 hfine
  have D1 := Lib.hid fun B W (h : Rep w B W (Ng.fresh l 8)) => side_do h 2
  have D2 := Lib.hid fun B W (h : Rep w B W g1) => side_do h 0
  rw [hU2] at D1
  rw [U2] at D2
  generalize Ng.fresh l 8 = g0 at *
  generalize Ng.asking l 8 = g2 at *
  obtain ⟨w1, hw1⟩ : ∃ w1, w1 = w.alloc (.cells (Pl.lcs l).toArray 23) := ⟨_, rfl⟩
  have HB : Hid (Below w.heap.size w w1) := Lib.hid (hw1 ▸ (Below.refl w.heap.size w).alloc (Nat.le_refl _) _)
  have L1 : Hid (Pl.Lnk w.heap.size w1 l) := Lib.hid (hw1 ▸ Pl.Lnk.new w l)
  have AW := Lib.hid (awake_any w1 (U.StepOk.later ST HB.out))
  have NU := Lib.hid num_any
  clear hfine ST hm hask U2 U3 hg1 hU2 hne
  go_enter Tryz.func11, Tryz.ntmps11
  go_upto_region 1 with (fail)
  rw [← hw1]
  clear hw1
  go_wp2_with (first
    | (go_at_call 15; (refine AW.out.mono ?_); rintro e w2 ⟨rfl, hb⟩; have B2 := Lib.hid (bel2 HB.out hb); have L2 := Lib.hid (L1.out.below hb); clear hb)
    | (refine Pl.step_link rfl _ rfl w.heap.size l rfl L2.out ?_)
    | (go_at_call 12; (refine (N1.out _ B2.out).mono ?_); rintro e w3 ⟨B, rfl, hB, hr, hb⟩; have C1 := Lib.hid (D1.out _ _ hr); clear hr hb hB)
    | (go_at_call 14; (refine (NU.out _ _).mono ?_); rintro e v1 ⟨rfl, rfl⟩)
    | (go_at_call 16; (with_reducible refine C1.out.mono ?_); rintro e w4 ⟨v4, rfl, hs⟩; have C2 := Lib.hid (D2.out _ _ hs.rep); clear hs)
    | (go_at_call 16; (with_reducible refine C2.out.mono ?_); rintro e w5 ⟨v5, rfl, hs⟩; have R5 := Lib.hid hs.rep; obtain ⟨ga, ca, ua, ea, hga, za, a0, a1, a2, a3, hra⟩ := packs_one hs.packs; subst ea; have ia := first_index ga ca; obtain ⟨pu, cu, hu⟩ := hra.form; subst hu; clear hs hra hga a0 a1 a3))
  go_ret
  exact ⟨rfl, R5.out.base.bel⟩
set_option maxHeartbeats 3200000 in
theorem learns_bad (l : Pol.Lk) (t : Int) (hm : Pol.may l = false) (w : World) (ST : U.StepOk w) :
    Calls Tryz.prog 11 #[.agg (Pl.lcs l).toArray, .int .i64 t] w fun e w' => e = .returned (.bool true) ∧ Below w.heap.size w w' := by
  have hfine : Ng.fine l 8 = false := by
    unfold Ng.fine
    rw [hm]
    rfl
  have N1 := Lib.hid fun W => side_none (W := W) l 8 hfine
  have MB := Lib.hid fun W => Pl.may_any l W
  rw [hm] at MB
  obtain ⟨w1, hw1⟩ : ∃ w1, w1 = w.alloc (.cells (Pl.lcs l).toArray 23) := ⟨_, rfl⟩
  have HB : Hid (Below w.heap.size w w1) := Lib.hid (hw1 ▸ (Below.refl w.heap.size w).alloc (Nat.le_refl _) _)
  have L1 : Hid (Pl.Lnk w.heap.size w1 l) := Lib.hid (hw1 ▸ Pl.Lnk.new w l)
  have AW := Lib.hid (awake_any w1 (U.StepOk.later ST HB.out))
  have NU := Lib.hid num_any
  clear hfine ST
  go_enter Tryz.func11, Tryz.ntmps11
  go_upto_region 1 with (fail)
  rw [← hw1]
  clear hw1
  go_wp2_with (first
    | (go_at_call 15; (refine AW.out.mono ?_); rintro e w2 ⟨rfl, hb⟩; have B2 := Lib.hid (bel2 HB.out hb); have L2 := Lib.hid (L1.out.below hb); clear hb)
    | (refine Pl.step_link rfl _ rfl w.heap.size l rfl (by with_reducible first | exact L2.out | exact L3.out) ?_)
    | (go_at_call 12; (refine (N1.out _).mono ?_); rintro e w3 ⟨rfl, hb⟩; have B3 := Lib.hid (bel2 B2.out hb); have L3 := Lib.hid (L2.out.below hb); clear hb)
    | (go_at_call 14; (refine (NU.out _ _).mono ?_); rintro e v1 ⟨rfl, rfl⟩)
    | (go_at_call 28; (refine (MB.out _).mono ?_); rintro e w4 ⟨rfl, hb⟩; have B4 := Lib.hid (bel2 B3.out hb); clear hb))
  go_ret
  exact ⟨rfl, B4.out⟩
theorem walk_learns (l : Pol.Lk) (t : Int) (w : World) (ST : U.StepOk w) : Calls Tryz.prog 11 #[Pl.lv l, .int .i64 t] w fun e w' => e = .returned (.bool true) ∧ Below w.heap.size w w' := by
  cases hm : Pol.may l
  · exact learns_bad l t hm w ST
  · by_cases hne : (Pol.asks l).length = 0
    · exact learns_empty l t hm hne w ST
    · exact learns_good l t hm hne w ST
end Go.Proofs.YteabkmelnoefiaaGreatDoor.Ne
namespace Go.Proofs.YteabkmelnoefiaaGreatDoor.U
open Go.RowKit
theorem law_negQuits (l : Pol.Lk) (t : Int) (w : World) (_ : (Lit.int .i64 t).wf = true) (T : Tab w) :
    Calls Tryz.prog 5 #[Pl.lv l, .int .i64 t] w fun e w' => e = .returned (.bool true) ∧ Below w.heap.size w w' := Ne.walk_quits l t w (step_any T)
theorem law_negForms (l : Pol.Lk) (t e : Int) (w : World) (_ : (Lit.int .i64 t).wf = true) (_ : (Lit.int .i64 e).wf = true) (T : Tab w) :
    Calls Tryz.prog 10 #[Pl.lv l, .int .i64 t, .int .i64 e] w fun e w' => e = .returned (.bool true) ∧ Below w.heap.size w w' := Ne.walk_forms l t e w (step_any T)
theorem law_negStale (l : Pol.Lk) (i c : Int) (w : World) (_ : (Lit.int .i64 i).wf = true) (_ : (Lit.int .i64 c).wf = true) (T : Tab w) :
    Calls Tryz.prog 9 #[Pl.lv l, .int .i64 i, .int .i64 c] w fun e w' => e = .returned (.bool true) ∧ Below w.heap.size w w' := Ne.walk_stale l i c w (step_any T)
theorem law_negLearns (l : Pol.Lk) (t : Int) (w : World) (_ : (Lit.int .i64 t).wf = true) (T : Tab w) :
    Calls Tryz.prog 11 #[Pl.lv l, .int .i64 t] w fun e w' => e = .returned (.bool true) ∧ Below w.heap.size w w' := Ne.walk_learns l t w (step_any T)
end Go.Proofs.YteabkmelnoefiaaGreatDoor.U
