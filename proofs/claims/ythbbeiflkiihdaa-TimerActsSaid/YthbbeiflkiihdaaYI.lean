/-
  The walk of the law of timers under any calls.
-/
import Derived.Test.YthbbeiflkiihdaaYH
import Derived.Deep.QuietTactic
import Derived.BigQuiet
import Derived.Deep.RegionHeld
import Derived.Deep.DeepCutAuto
import Derived.Deep.CutBlock
namespace Go.Proofs.Ythbbeiflkiihdaa.Y
open Go.RowKit
set_option maxRecDepth 100000 in
set_option maxHeartbeats 6400000 in
theorem walk_timerActs (va : Value) (l : List (Int × Int × Int)) (w : World) (hr : ReadsA w va l) :
    Calls Try.prog 3 #[va] w fun e w' => e = .returned (.bool true) ∧ Below w.heap.size w w' := by
  obtain ⟨p0, cap0, rfl, b0, off0, hr⟩ := hr
  have HR := Lib.hid hr
  clear hr
  go_enter Try.func3, Try.ntmps3
  go_wp2_with fail
  refine (t_new w w (Below.refl _ _)).mono ?_
  rintro e w1 ⟨B, v, rfl, h1, _, _⟩
  have H1 : Hid (Both w B v w1.heap.size (.slice none 0 0) (w1.alloc (.cells #[.slice none 0 0] 28)) [] []) := Lib.hid
    ⟨h1.below ((Below.refl w1.heap.size w1).alloc (Nat.le_refl _) _), ⟨Tim.ok_nil, ⟨Blk.new w1 [.slice none 0 0] 28, RowX.empty _ _⟩⟩, h1.bel.size,
      ⟨fun e => by have := h1.tm.lt; omega, fun e => by have := (h1.tm.row _ e).2; omega, (fun e => by cases e), fun k _ e => by cases e⟩⟩
  clear h1
  go_wp2_with fail
  go_loopw [5] (fun i wr => ∃ (k : Nat) (v u : Value) (S : List Tim.T), k ≤ l.length ∧ k ≤ 300 ∧ i = .int .i64 (k : Int) ∧ Both w B v w1.heap.size u wr S S) (fun i _ => 300 - (intOf i).toNat)
  case atStart => exact ⟨0, _, _, _, by omega, by omega, rfl, H1.out⟩
  case round =>
    obtain ⟨k, v, u, S, hk1, hk2, rfl, hb⟩ := hrel
    have HB := Lib.hid hb
    clear hb H1
    generalize w1.heap.size = C at *
    by_cases hlt : k < l.length ∧ k < 300
    · obtain ⟨l1, l2⟩ := hlt
      obtain ⟨rfl, hi, c0, c1, c2⟩ := HR.out k l1
      rw [← HB.out.a.bel.cell (block_lt_of_cell c0)] at c0
      rw [← HB.out.a.bel.cell (block_lt_of_cell c1)] at c1
      rw [← HB.out.a.bel.cell (block_lt_of_cell c2)] at c2
      obtain ⟨o8, ho8⟩ : ∃ o8, o8 = off0 + 3 * k := ⟨_, rfl⟩
      rw [← ho8] at hi c0 c1 c2
      clear ho8
      generalize l[k] = x at *
      obtain ⟨kd, id, at0⟩ := x
      have q1 : decide ((k : Int) < (l.length : Int)) = true := decide_eq_true (by omega)
      have q2 : decide ((k : Int) < 300) = true := decide_eq_true (by omega)
      have HP := Lib.hid (HB.out.play [.int .i64 kd, .int .i64 id, .int .i64 at0] 30)
      have k0 := HP.out.x.cell 0 _ rfl
      clear HB
      go_upto_block 2 with (fail)
      go_cut [7] (fun _ wx => ∃ (v' u' : Value) (S' : List Tim.T) (G : Nat) (c : Value) (cs : List Value), Play w B v' C u' wx S' S' G (c :: cs))
      case first =>
        clear hi c0 c1 c2 q1 q2
        have hway : kd < 6 ∨ (¬kd < 6 ∧ kd < 8) ∨ (¬kd < 6 ∧ ¬kd < 8) := by omega
        rcases hway with h6 | ⟨h6, h8⟩ | ⟨h6, h8⟩
        · have k1 := HP.out.x.cell 1 _ rfl
          have k2 := HP.out.x.cell 2 _ rfl
          obtain ⟨S', r, hS⟩ : ∃ S' r, Tim.set S id at0 = (S', r) := ⟨_, _, rfl⟩
          have HS := Lib.hid hS
          have H1 := Lib.hid (p_set HP.out hS)
          have qr : (r != r) = false := by simp
          clear hS
          go_wp2_with fail
          refine H1.out.mono ?_
          rintro e w3 ⟨rfl, v3, h3⟩
          have HP3 := Lib.hid h3
          clear h3 H1 HP k0 k1 k2
          go_wp2_with fail
          have hd := HP3.out.drew.two
          have H4 := Lib.hid (q_set HP3.out.drew HS.out)
          go_region_held (fun a => a.cell? ⟨wr.heap.size, 1, none⟩ = some (.int .i64 id) ∧ a.cell? ⟨wr.heap.size, 2, none⟩ = some (.int .i64 at0)) (first | assumption) (first | (go_at_call 6; refine (num_any _ _).mono ?_; rintro e w9 ⟨rfl, rfl⟩) | (go_at_call 7; refine H4.out.mono ?_; rintro e w4 ⟨rfl, u4, h4⟩; have HP4 := Lib.hid h4; have hd4 := h4.two; clear h4))
          all_goals go_wp2_with fail
          all_goals go_meet
          all_goals exact ⟨v3, u4, S', _, _, _, HP4.out⟩
        · have k1 := HP.out.x.cell 1 _ rfl
          obtain ⟨S', r, hS⟩ : ∃ S' r, Tim.stop S id = (S', r) := ⟨_, _, rfl⟩
          have HS := Lib.hid hS
          have H1 := Lib.hid (p_stop HP.out hS)
          have qr : (r != r) = false := by simp
          clear hS
          go_wp2_with fail
          refine H1.out.mono ?_
          rintro e w3 ⟨rfl, v3, h3⟩
          have HP3 := Lib.hid h3
          clear h3 H1 HP k0 k1
          go_wp2_with fail
          have hd := HP3.out.drew.two
          have H4 := Lib.hid (q_stop HP3.out.drew HS.out)
          go_region_held (fun a => a.cell? ⟨wr.heap.size, 1, none⟩ = some (.int .i64 id) ∧ a.cell? ⟨wr.heap.size, 2, none⟩ = some (.int .i64 at0)) (first | assumption) (first | (go_at_call 6; refine (num_any _ _).mono ?_; rintro e w9 ⟨rfl, rfl⟩) | (go_at_call 9; refine H4.out.mono ?_; rintro e w4 ⟨rfl, u4, h4⟩; have HP4 := Lib.hid h4; have hd4 := h4.two; clear h4))
          all_goals go_wp2_with fail
          all_goals go_meet
          all_goals exact ⟨v3, u4, S', _, _, _, HP4.out⟩
        · have k2 := HP.out.x.cell 2 _ rfl
          obtain ⟨S', ids, hS⟩ : ∃ S' ids, Tim.due S at0 = (S', ids) := ⟨_, _, rfl⟩
          have HL : Hid (ids.length ≤ 4611686018427387904) := Lib.hid (by
            have h1 := due_few S at0
            rw [hS] at h1
            have := HP.out.t.b.ok.few
            simp only at h1
            omega)
          have HS := Lib.hid hS
          have H1 := Lib.hid (p_due HP.out hS)
          clear hS
          go_wp2_with fail
          refine H1.out.mono ?_
          rintro e w3 ⟨p3, cap3, v3, rfl, h3, hh3⟩
          have HP3 := Lib.hid h3
          have HH3 := Lib.hid hh3
          have g2 := h3.x.cell 2 _ rfl
          clear h3 hh3 H1 HP k0 k2
          go_wp2_with (first | (go_at_call 12; refine (q_due HP3.out HH3.out HS.out).mono ?_; rintro e w4 ⟨p4, cap4, u4, rfl, h4, r4, s4⟩; have HP4 := Lib.hid h4; have HSI := Lib.hid (sameI_yes r4 s4 HL.out); clear h4 r4 s4) | (go_at_call 11; refine HSI.out.mono ?_; rintro e w5 ⟨rfl, hb5⟩; have HP5 := Lib.hid (HP4.out.below hb5); clear hb5))
          go_meet
          exact ⟨v3, u4, S', _, _, _, HP5.out⟩
      case rest =>
        obtain ⟨v5, u5, S5, G5, cc5, cs5, h5⟩ := hcut
        have H5 := Lib.hid h5
        clear h5 hi c0 c1 c2 HP k0
        cases S5 with
        | nil =>
          go_wp2_with fail
          refine (p_next H5.out (a := 0) (b := 0) (r := 1101) rfl).mono ?_
          rintro e w6 ⟨rfl, h6⟩
          have H6 := Lib.hid h6
          have HLN : Hid (∀ n, Calls Try.prog 14 #[.pointer (some ⟨B, 0, none⟩)] (w6.drewN n) fun e w' => e = .returned (.int .i64 0) ∧ w' = w6.drewN n) := Lib.hid fun n => tlen_any B v5 [] _ (h6.t.a.tm.below (below_drewN (Below.refl _ _) n))
          obtain ⟨p6, cap6, rfl⟩ := h6.t.b.rf.form
          have d0 := h6.t.b.rf.box.cell 0 _ rfl
          clear h6 H5
          go_wp2_with fail
          go_quiet (first | (go_at_call 6; exact Calls.quiet_of_same ((num_any _ _).mono fun _ _ ⟨h1, h2⟩ => ⟨h1, h2.symm⟩)) | (go_at_call 14; exact Calls.quiet_of_same (HLN.out _)))
          obtain ⟨wq, hwq⟩ : ∃ wq, wq = w6.drewN nq := ⟨_, rfl⟩
          have H7 := Lib.hid (H6.out.t.below (hwq ▸ below_drewN (Below.refl _ _) nq))
          rw [← hwq]
          clear hwq d0
          go_wp2_with fail
          go_roundw
          case rel => exact ⟨k + 1, _, _, [], by omega, by omega, by go_num, H7.out⟩
          case measure => simp [intOf]; omega
        | cons x R =>
          obtain ⟨a, s⟩ := x
          go_wp2_with fail
          refine (p_next H5.out (a := a) (b := s) (r := 0) rfl).mono ?_
          rintro e w6 ⟨rfl, h6⟩
          have H6 := Lib.hid h6
          have HLN : Hid (∀ n, Calls Try.prog 14 #[.pointer (some ⟨B, 0, none⟩)] (w6.drewN n) fun e w' => e = .returned (.int .i64 (((a, s) :: R).length : Int)) ∧ w' = w6.drewN n) := Lib.hid fun n => tlen_any B v5 ((a, s) :: R) _ (h6.t.a.tm.below (below_drewN (Below.refl _ _) n))
          obtain ⟨G6, cap6, rfl, _, _, _⟩ := h6.t.b.rf.arr.full (by simp)
          have d0 := h6.t.b.rf.box.cell 0 _ rfl
          obtain ⟨d1, d2⟩ := h6.t.b.rf.arr.cells 0 (by simp)
          have hi2 := indexX G6 ((a, s) :: R).length cap6 0 (by simp)
          have hn1 : 0 < ((a, s) :: R).length := by simp
          have hn2 : ((a, s) :: R).length ≤ 256 := h6.t.b.ok.few
          rw [show 2 * 0 = 0 from rfl] at d1 d2 hi2
          rw [show Tim.g ((a, s) :: R) 0 = (a, s) from rfl] at d1 d2
          generalize hn : ((a, s) :: R).length = n at *
          have HN := Lib.hid hn
          have q3 : ((n : Int) != (n : Int)) = false := by simp
          have q4 : decide ((0 : Int) < (n : Int)) = true := decide_eq_true (by omega)
          have q5 : (a != a) = false := by simp
          have q6 : (s != s) = false := by simp
          clear h6 H5 hn
          go_wp2_with fail
          go_quiet (first | (go_at_call 6; exact Calls.quiet_of_same ((num_any _ _).mono fun _ _ ⟨h1, h2⟩ => ⟨h1, h2.symm⟩)) | (go_at_call 14; exact Calls.quiet_of_same (HLN.out _)))
          obtain ⟨wq, hwq⟩ : ∃ wq, wq = w6.drewN nq := ⟨_, rfl⟩
          have H7 := Lib.hid (H6.out.t.below (hwq ▸ below_drewN (Below.refl _ _) nq))
          rw [← hwq]
          clear hwq d0 d1 d2 hi2 q3 q4 q5 q6
          go_wp2_with fail
          go_roundw
          case rel => exact ⟨k + 1, _, _, (a, s) :: R, by omega, by omega, by go_num, H7.out⟩
          case measure => simp [intOf]; omega
    · have hend : (k : Int) = (l.length : Int) ∨ ((k : Int) < (l.length : Int) ∧ (k : Int) = 300) := by omega
      have HZ := Lib.hid HB.out.a.bel
      clear hlt hk1 hk2 HR HB
      rcases hend with h | ⟨h1, h⟩
      all_goals
        go_wp2_with (refine (awake_any _).mono ?_; rintro e w9 ⟨rfl, hb9⟩; have H9 := Lib.hid (bel2 HZ.out hb9); clear hb9)
        go_ret
        exact ⟨rfl, H9.out⟩
end Go.Proofs.Ythbbeiflkiihdaa.Y
