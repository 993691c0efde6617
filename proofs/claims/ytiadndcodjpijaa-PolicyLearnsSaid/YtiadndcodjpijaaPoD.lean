/-
  The walk of the law of what is learnt out of what was rejected, naked.
-/
import Derived.Test.YtiadndcodjpijaaPoC
import Derived.Test.YtiadndcodjpijaaPoMath4
namespace Go.Proofs.Ytiadndcodjpijaa.Pl
open Go.RowKit
theorem link_diff (l m : Pol.Lk) (h : l ≠ m) : ∀ W : World, (binOp .eql 23 (lv l) (lv m)).run Try.prog W = .ok (.bool false) W := by
  have k := (eqL_any l m).2.2
  rw [decide_eq_false h] at k
  exact k
set_option maxHeartbeats 3200000 in
set_option maxRecDepth 100000 in
theorem learns_good (a b : Pol.Lk) (w : World) (PO : Hid (PolOk w)) (ha : Hid (Pol.may a = true)) (hb : Hid (Pol.may b = true))
    (A : Hid (∀ l, Pol.may l = true → ∀ W, Below w.heap.size w W → Calls Try.prog 10 #[lv l] W fun e w' => ∃ v, e = .returned (.tuple #[v, .int .i64 0]) ∧ ReadsO w' v (Pol.asks l) ∧ Below W.heap.size W w'))
    (MB : Hid (∀ W, Calls Try.prog 14 #[lv b] W fun e w' => e = .returned (.bool true) ∧ Below W.heap.size W w')) :
    Calls Try.prog 4 #[.agg (lcs a).toArray, .agg (lcs b).toArray] w fun e w' => e = .returned (.bool true) ∧ Below w.heap.size w w' := by
  have K1 : Hid (Lnk w.heap.size ((w.alloc (.cells (lcs a).toArray 23)).alloc (.cells (lcs b).toArray 23)) a) := Lib.hid ((Lnk.new w a).below ((Below.refl _ _).alloc (Nat.le_refl _) _))
  have J1 : Hid (Lnk (w.heap.size + 1) ((w.alloc (.cells (lcs a).toArray 23)).alloc (.cells (lcs b).toArray 23)) b) := Lib.hid (Lnk.new_at _ b _ (by simp))
  have B1 := Lib.hid (((Below.refl w.heap.size w).alloc (Nat.le_refl _) (.cells (lcs a).toArray 23)).alloc (by simp) (.cells (lcs b).toArray 23))
  go_enter Try.func4, Try.ntmps4
  go_wp2_with (first | (refine step_link rfl _ rfl w.heap.size a rfl (by with_reducible first | exact K2.out) ?_) | (refine step_link rfl _ rfl (w.heap.size + 1) b rfl (by with_reducible first | exact J3.out) ?_) |
    (go_at_call 9; (refine (awake_any _ (Lib.hid (PO.out.later B1.out))).mono ?_); rintro e w2 ⟨rfl, hb2⟩; have K2 := Lib.hid (K1.out.below hb2); have J2 := Lib.hid (J1.out.below hb2); have B2 := Lib.hid (bel2 B1.out hb2); clear hb2) |
    (go_at_call 10; (with_reducible refine (A.out a ha.out _ B2.out).mono ?_); rintro e w3 ⟨v3, rfl, r3, hb3⟩; have R3 := Lib.hid r3; have K3 := Lib.hid (K2.out.below hb3); have J3 := Lib.hid (J2.out.below hb3); have B3 := Lib.hid (bel2 B2.out hb3); clear r3 hb3) |
    (go_at_call 14; (with_reducible refine (MB.out _).mono ?_); rintro e w4 ⟨rfl, hb4⟩; have R4 := Lib.hid (R3.out.below hb4); have K4 := Lib.hid (K3.out.below hb4); have J4 := Lib.hid (J3.out.below hb4); have B4 := Lib.hid (bel2 B3.out hb4); clear hb4) |
    (go_at_call 11; (refine (num_any _ _).mono ?_); rintro e w10 ⟨rfl, rfl⟩))
  go_loopw [5, 7, 8, 9, 10, 11, 12, 13, 14, 15] (fun s5 s7 _ _ _ _ _ _ _ _ wr => ∃ (i : Nat) (l : Pol.Lk), i + Pol.rank b l ≤ 2 ∧ Pol.may l = true ∧ s7 = .int .i64 (i : Int) ∧ ReadsO wr s5 (Pol.asks l) ∧ Lnk w.heap.size wr l ∧ Lnk (w.heap.size + 1) wr b ∧ Below w.heap.size w wr) (fun _ s7 _ _ _ _ _ _ _ _ _ => 4 - (intOf s7).toNat)
  case atStart => exact ⟨0, a, by have := Pol.rank_le b a; omega, ha.out, rfl, R4.out, K4.out, J4.out, B4.out⟩
  case round =>
    clear R4 K4 J4 B4 R3 K3 J3 B3 K2 J2 B2 K1 J1 B1
    obtain ⟨i, l, hr, hl, rfl, r5, k5, j5, b5⟩ := hrel
    have R5 := Lib.hid r5
    have K5 := Lib.hid k5
    have J5 := Lib.hid j5
    have B5 := Lib.hid b5
    clear r5 k5 j5 b5
    have hlen := Pol.asks_length l
    rcases Pol.round l b hl hb.out with e | ⟨vd, code, rs, m, hvc, e, hle, hne, hm, hrk, hrl, hrd⟩
    · have JD : Hid (∀ v W, Below w.heap.size w W → ReadsO W v (Pol.asks l) → Calls Try.prog 13 #[lv b, v] W fun e w' => ∃ u, e = .returned (.tuple #[.int .i64 0, u, .int .i64 0]) ∧ ReadsO w' u (Pol.asks l) ∧ Below W.heap.size W w') := Lib.hid fun v W k r => by
        have h := PO.out.judge b v (Pol.asks l) W k r (by omega)
        rwa [e] at h
      have hi2 : i ≤ 2 := by omega
      clear e hr hlen
      go_wp2_with (first | (refine step_link rfl _ rfl (w.heap.size + 1) b rfl (by with_reducible first | exact J5.out) ?_) |
        (go_at_call 13; (with_reducible refine (JD.out _ _ B5.out R5.out).mono ?_); rintro e w6 ⟨u6, rfl, r6, hb6⟩; have B6 := Lib.hid (bel2 B5.out hb6); clear r6 hb6) |
        (go_at_call 11; (refine (num_any _ _).mono ?_); rintro e w10 ⟨rfl, rfl⟩))
      go_ret
      exact ⟨ret_bool (decide_eq_true (by omega)), B6.out⟩
    · have JD : Hid (∀ v W, Below w.heap.size w W → ReadsO W v (Pol.asks l) → Calls Try.prog 13 #[lv b, v] W fun e w' => ∃ u, e = .returned (.tuple #[.int .i64 vd, u, .int .i64 0]) ∧ ReadsO w' u rs ∧ Below W.heap.size W w') := Lib.hid fun v W k r => by
        have h := PO.out.judge b v (Pol.asks l) W k r (by omega)
        rwa [e] at h
      have LD : Hid (∀ v W, Below w.heap.size w W → ReadsO W v rs → Calls Try.prog 16 #[lv l, .int .i64 code, v] W fun e w' => e = .returned (.tuple #[lv m, .int .i64 0]) ∧ Below W.heap.size W w') := Lib.hid fun v W k r => by
        have h := PO.out.learn l code v rs W k r (by omega) (fun o ho => by have := hrd o ho; omega)
        rwa [hle] at h
      have hi2 : i ≤ 1 := by omega
      have HR : Hid (i + 1 + Pol.rank b m ≤ 2) := Lib.hid (by omega)
      have HM := Lib.hid hm
      have e1 := link_diff m l hne
      have g1 := fun op x y W => guard_lv op x y m l W
      clear e hr hlen hle hne hrk hrl hrd hl hm
      rcases hvc with ⟨rfl, rfl⟩ | ⟨rfl, rfl⟩
      all_goals
        go_wp2_with (first | (refine step_link rfl _ rfl w.heap.size l rfl (by with_reducible first | exact K6.out | exact K8.out) ?_) | (refine step_link rfl _ rfl w.heap.size m rfl (by with_reducible exact K9.out) ?_) | (refine step_link rfl _ rfl (w.heap.size + 1) b rfl (by with_reducible first | exact J5.out) ?_) | (refine step_link rfl _ rfl w7.heap.size m rfl (by with_reducible exact N8.out) ?_) |
          (go_at_call 13; (with_reducible refine (JD.out _ _ B5.out R5.out).mono ?_); rintro e w6 ⟨u6, rfl, r6, hb6⟩; have R6 := Lib.hid r6; have K6 := Lib.hid (K5.out.below hb6); have J6 := Lib.hid (J5.out.below hb6); have B6 := Lib.hid (bel2 B5.out hb6); clear r6 hb6) |
          (go_at_call 16; (with_reducible refine (LD.out _ _ B6.out R6.out).mono ?_); rintro e w7 ⟨rfl, hb7⟩; have K7 := Lib.hid (K6.out.below hb7); have J7 := Lib.hid (J6.out.below hb7); have B7 := Lib.hid (bel2 B6.out hb7); clear hb7) |
          (refine step_keep rfl _ _ rfl w7.heap.size Pol.zero m rfl rfl (by with_reducible exact kz w7) ?_; intro w8 n8 g8; have hq8 := kept_new rfl g8; have N8 := Lib.hid n8; have K8 := Lib.hid (K7.out.below hq8); have J8 := Lib.hid (J7.out.below hq8); have B8 := Lib.hid (bel2 B7.out hq8); clear n8 g8 hq8) |
          (refine step_keep rfl _ _ rfl w.heap.size l m rfl rfl (by with_reducible exact K8.out) ?_; intro w9 n9 g9; have K9 := Lib.hid n9; have J9 := Lib.hid (J8.out.grown g9 (by simp)); have B9 := Lib.hid (below_of_grown B8.out g9 (Nat.le_refl _) rfl); clear n9 g9) |
          (go_at_call 10; (with_reducible refine (A.out m HM.out _ B9.out).mono ?_); rintro e wa ⟨va, rfl, ra, hba⟩; have RA := Lib.hid ra; have KA := Lib.hid (K9.out.below hba); have JA := Lib.hid (J9.out.below hba); have BA := Lib.hid (bel2 B9.out hba); clear ra hba) |
          (go_at_call 11; (refine (num_any _ _).mono ?_); rintro e w10 ⟨rfl, rfl⟩))
        go_roundw
        case rel => exact ⟨i + 1, m, HR.out, HM.out, by go_num, RA.out, KA.out, JA.out, BA.out⟩
        case measure => simp [intOf]; omega
set_option maxHeartbeats 1600000 in
set_option maxRecDepth 100000 in
theorem learns_noa (a b : Pol.Lk) (w : World) (PO : Hid (PolOk w))
    (A : Hid (∀ W, Below w.heap.size w W → Calls Try.prog 10 #[lv a] W fun e w' => ∃ v, e = .returned (.tuple #[v, .int .i64 1400]) ∧ ReadsO w' v [] ∧ Below W.heap.size W w')) :
    Calls Try.prog 4 #[.agg (lcs a).toArray, .agg (lcs b).toArray] w fun e w' => e = .returned (.bool true) ∧ Below w.heap.size w w' := by
  have K1 : Hid (Lnk w.heap.size ((w.alloc (.cells (lcs a).toArray 23)).alloc (.cells (lcs b).toArray 23)) a) := Lib.hid ((Lnk.new w a).below ((Below.refl _ _).alloc (Nat.le_refl _) _))
  have B1 := Lib.hid (((Below.refl w.heap.size w).alloc (Nat.le_refl _) (.cells (lcs a).toArray 23)).alloc (by simp) (.cells (lcs b).toArray 23))
  go_enter Try.func4, Try.ntmps4
  go_wp2_with (first | (refine step_link rfl _ rfl w.heap.size a rfl (by with_reducible first | exact K2.out) ?_) |
    (go_at_call 9; (refine (awake_any _ (Lib.hid (PO.out.later B1.out))).mono ?_); rintro e w2 ⟨rfl, hb2⟩; have K2 := Lib.hid (K1.out.below hb2); have B2 := Lib.hid (bel2 B1.out hb2); clear hb2) |
    (go_at_call 10; (with_reducible refine (A.out _ B2.out).mono ?_); rintro e w3 ⟨v3, rfl, r3, hb3⟩; have B3 := Lib.hid (bel2 B2.out hb3); clear r3 hb3) |
    (go_at_call 11; (refine (num_any _ _).mono ?_); rintro e w10 ⟨rfl, rfl⟩))
  go_ret
  exact ⟨rfl, B3.out⟩
set_option maxHeartbeats 1600000 in
set_option maxRecDepth 100000 in
theorem learns_nob (a b : Pol.Lk) (O : List Pol.Op) (w : World) (PO : Hid (PolOk w))
    (A : Hid (∀ W, Below w.heap.size w W → Calls Try.prog 10 #[lv a] W fun e w' => ∃ v, e = .returned (.tuple #[v, .int .i64 0]) ∧ ReadsO w' v O ∧ Below W.heap.size W w'))
    (MB : Hid (∀ W, Calls Try.prog 14 #[lv b] W fun e w' => e = .returned (.bool false) ∧ Below W.heap.size W w')) :
    Calls Try.prog 4 #[.agg (lcs a).toArray, .agg (lcs b).toArray] w fun e w' => e = .returned (.bool true) ∧ Below w.heap.size w w' := by
  have K1 : Hid (Lnk w.heap.size ((w.alloc (.cells (lcs a).toArray 23)).alloc (.cells (lcs b).toArray 23)) a) := Lib.hid ((Lnk.new w a).below ((Below.refl _ _).alloc (Nat.le_refl _) _))
  have J1 : Hid (Lnk (w.heap.size + 1) ((w.alloc (.cells (lcs a).toArray 23)).alloc (.cells (lcs b).toArray 23)) b) := Lib.hid (Lnk.new_at _ b _ (by simp))
  have B1 := Lib.hid (((Below.refl w.heap.size w).alloc (Nat.le_refl _) (.cells (lcs a).toArray 23)).alloc (by simp) (.cells (lcs b).toArray 23))
  go_enter Try.func4, Try.ntmps4
  go_wp2_with (first | (refine step_link rfl _ rfl w.heap.size a rfl (by with_reducible first | exact K2.out) ?_) | (refine step_link rfl _ rfl (w.heap.size + 1) b rfl (by with_reducible first | exact J3.out) ?_) |
    (go_at_call 9; (refine (awake_any _ (Lib.hid (PO.out.later B1.out))).mono ?_); rintro e w2 ⟨rfl, hb2⟩; have K2 := Lib.hid (K1.out.below hb2); have J2 := Lib.hid (J1.out.below hb2); have B2 := Lib.hid (bel2 B1.out hb2); clear hb2) |
    (go_at_call 10; (with_reducible refine (A.out _ B2.out).mono ?_); rintro e w3 ⟨v3, rfl, r3, hb3⟩; have J3 := Lib.hid (J2.out.below hb3); have B3 := Lib.hid (bel2 B2.out hb3); clear r3 hb3) |
    (go_at_call 14; (with_reducible refine (MB.out _).mono ?_); rintro e w4 ⟨rfl, hb4⟩; have B4 := Lib.hid (bel2 B3.out hb4); clear hb4) |
    (go_at_call 11; (refine (num_any _ _).mono ?_); rintro e w10 ⟨rfl, rfl⟩))
  go_ret
  exact ⟨rfl, B4.out⟩
theorem walk_learns (a b : Pol.Lk) (w : World) (PO : PolOk w) :
    Calls Try.prog 4 #[lv a, lv b] w fun e w' => e = .returned (.bool true) ∧ Below w.heap.size w w' := by
  have A : ∀ l, Pol.may l = true → ∀ W, Below w.heap.size w W → Calls Try.prog 10 #[lv l] W fun e w' => ∃ v, e = .returned (.tuple #[v, .int .i64 0]) ∧ ReadsO w' v (Pol.asks l) ∧ Below W.heap.size W w' := fun l hl W k => by
    have h := PO.ask l W k
    have e : Pol.ask l = (Pol.asks l, 0) := by unfold Pol.ask; rw [if_pos hl]
    rwa [e] at h
  by_cases hm : Pol.may a = true
  · by_cases hb : Pol.may b = true
    · exact learns_good a b w (Lib.hid PO) (Lib.hid hm) (Lib.hid hb) (Lib.hid A) (Lib.hid fun W => by
        have h := may_any b W
        rwa [hb] at h)
    · have hb2 : Pol.may b = false := by simpa using hb
      exact learns_nob a b (Pol.asks a) w (Lib.hid PO) (Lib.hid (A a hm)) (Lib.hid fun W => by
        have h := may_any b W
        rwa [hb2] at h)
  · refine learns_noa a b w (Lib.hid PO) (Lib.hid fun W k => ?_)
    have h := PO.ask a W k
    have e : Pol.ask a = ([], 1400) := by unfold Pol.ask; rw [if_neg hm]
    rwa [e] at h
end Go.Proofs.Ytiadndcodjpijaa.Pl
