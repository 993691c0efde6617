/-
  The walk of the law of what a link asks for: taken as it, judged by the like.
-/
import Derived.Test.YtiadndcodjpijaaPoB
import Derived.Test.YtiadndcodjpijaaSameO
import Derived.Deep.DeepCutAuto
namespace Go.Proofs.Ytiadndcodjpijaa.Pl
open Go.RowKit
theorem link_neq (l : Pol.Lk) : ∀ W : World, (binOp .neq 23 (lv l) (lv l)).run Try.prog W = .ok (.bool false) W := by
  have h := (eqL_any l l).2.1
  rw [decide_eq_true rfl] at h
  exact h
set_option maxHeartbeats 3200000 in
set_option maxRecDepth 100000 in
theorem back_good (a b : Pol.Lk) (O rs : List Pol.Op) (n : Nat) (vd : Int) (w : World) (PO : Hid (PolOk w)) (hn : O.length = n) (hO : Hid (O.length ≤ 1000000))
    (A : Hid (∀ W, Below w.heap.size w W → Calls Try.prog 10 #[lv a] W fun e w' => ∃ v, e = .returned (.tuple #[v, .int .i64 0]) ∧ ReadsO w' v O ∧ Below W.heap.size W w'))
    (T : Hid (∀ v W, Below w.heap.size w W → ReadsO W v O → Calls Try.prog 12 #[v] W fun e w' => e = .returned (.tuple #[lv a, .int .i64 0]) ∧ Below W.heap.size W w'))
    (J : Hid (∀ v W, Below w.heap.size w W → ReadsO W v O → Calls Try.prog 13 #[lv b, v] W fun e w' => ∃ u, e = .returned (.tuple #[.int .i64 vd, u, .int .i64 0]) ∧ ReadsO w' u rs ∧ Below W.heap.size W w'))
    (way : Hid ((a.short = true ∧ b.short = false ∧ vd = 2 ∧ ∃ d, rs = [(18, d)]) ∨ ((a.short = false ∨ b.short = true) ∧ a.magic ≠ 0 ∧ a.magic = b.magic ∧ vd = 1 ∧ ∃ d, rs = [(5, d)]) ∨ ((a.short = false ∨ b.short = true) ∧ (a.magic = 0 ∨ a.magic ≠ b.magic) ∧ vd = 0 ∧ rs = O))) :
    Calls Try.prog 3 #[.agg (lcs a).toArray, .agg (lcs b).toArray] w fun e w' => e = .returned (.bool true) ∧ Below w.heap.size w w' := by
  have HN := Lib.hid hn
  have K1 : Hid (Lnk w.heap.size ((w.alloc (.cells (lcs a).toArray 23)).alloc (.cells (lcs b).toArray 23)) a) := Lib.hid ((Lnk.new w a).below ((Below.refl _ _).alloc (Nat.le_refl _) _))
  have J1 : Hid (Lnk (w.heap.size + 1) ((w.alloc (.cells (lcs a).toArray 23)).alloc (.cells (lcs b).toArray 23)) b) := Lib.hid (Lnk.new_at _ b _ (by simp))
  have B1 := Lib.hid (((Below.refl w.heap.size w).alloc (Nat.le_refl _) (.cells (lcs a).toArray 23)).alloc (by simp) (.cells (lcs b).toArray 23))
  have e1 := link_neq a
  have g1 := fun op x y W => guard_lv op x y a a W
  clear hn
  go_enter Try.func3, Try.ntmps3
  go_upto_region 12 with (first | (refine step_link rfl _ rfl w.heap.size a rfl (by with_reducible first | exact K2.out | exact K5.out) ?_) | (refine step_link rfl _ rfl (w.heap.size + 1) b rfl (by with_reducible exact J5.out) ?_) | (refine step_link rfl _ rfl w4.heap.size a rfl (by with_reducible exact N5.out) ?_) |
    (go_at_call 9; (refine (awake_any _ (Lib.hid (PO.out.later B1.out))).mono ?_); rintro e w2 ⟨rfl, hb2⟩; have K2 := Lib.hid (K1.out.below hb2); have J2 := Lib.hid (J1.out.below hb2); have B2 := Lib.hid (bel2 B1.out hb2); clear hb2) |
    (go_at_call 10; (with_reducible refine (A.out _ B2.out).mono ?_); rintro e w3 ⟨v3, rfl, r3, hb3⟩; obtain ⟨p3, cap3, rfl⟩ := reads_form r3; rw [HN.out] at r3; rw [HN.out]; have R3 := Lib.hid r3; have K3 := Lib.hid (K2.out.below hb3); have J3 := Lib.hid (J2.out.below hb3); have B3 := Lib.hid (bel2 B2.out hb3); clear r3 hb3) |
    (go_at_call 12; (with_reducible refine (T.out _ _ B3.out R3.out).mono ?_); rintro e w4 ⟨rfl, hb4⟩; have R4 := Lib.hid (R3.out.below hb4); have K4 := Lib.hid (K3.out.below hb4); have J4 := Lib.hid (J3.out.below hb4); have B4 := Lib.hid (bel2 B3.out hb4); clear hb4) |
    (refine step_keep rfl _ _ rfl w4.heap.size Pol.zero a rfl rfl (by with_reducible exact kz w4) ?_; intro w5 n5 g5; have hq5 := kept_new rfl g5; have N5 := Lib.hid n5; have R5 := Lib.hid (R4.out.below hq5); have K5 := Lib.hid (K4.out.below hq5); have J5 := Lib.hid (J4.out.below hq5); have B5 := Lib.hid (bel2 B4.out hq5); clear n5 g5 hq5) |
    (go_at_call 13; (with_reducible refine (J.out _ _ B5.out R5.out).mono ?_); rintro e w6 ⟨u6, rfl, r6, hb6⟩; have Q6 := Lib.hid r6; have R6 := Lib.hid (R5.out.below hb6); have K6 := Lib.hid (K5.out.below hb6); have J6 := Lib.hid (J5.out.below hb6); have B6 := Lib.hid (bel2 B5.out hb6); clear r6 hb6) |
    (go_at_call 11; (refine (num_any _ _).mono ?_); rintro e w10 ⟨rfl, rfl⟩))
  have ks : w6.cell? ⟨w.heap.size, 3, none⟩ = some (.bool a.short) := Arr.cell K6.out 3 _ rfl
  have km : w6.cell? ⟨w.heap.size, 1, none⟩ = some (.int .i64 a.magic) := Arr.cell K6.out 1 _ rfl
  have js : w6.cell? ⟨w.heap.size + 1, 3, none⟩ = some (.bool b.short) := Arr.cell J6.out 3 _ rfl
  have jm : w6.cell? ⟨w.heap.size + 1, 1, none⟩ = some (.int .i64 b.magic) := Arr.cell J6.out 1 _ rfl
  have way' := way.out
  have hO' := hO.out
  clear way A T J e1 g1 K1 J1 B1 K2 J2 B2 K3 J3 B3 R3 K4 J4 B4 R4 N5 K5 J5 B5 R5 PO HN hO
  obtain ⟨sa, has⟩ : ∃ sa, sa = a.short := ⟨_, rfl⟩
  obtain ⟨sb, hbs⟩ : ∃ sb, sb = b.short := ⟨_, rfl⟩
  obtain ⟨am, ham⟩ : ∃ am, am = a.magic := ⟨_, rfl⟩
  obtain ⟨bm, hbm⟩ : ∃ bm, bm = b.magic := ⟨_, rfl⟩
  rw [← has] at ks way'
  rw [← hbs] at js way'
  rw [← ham] at km way'
  rw [← hbm] at jm way'
  clear has hbs ham hbm
  have tail : (sa = true ∧ sb = false ∧ vd = 2 ∧ ∃ d, rs = [(18, d)]) ∨ (((sa = false) ∨ (sa = true ∧ sb = true)) ∧ (((am != 0) = true ∧ am = bm ∧ vd = 1 ∧ ∃ d, rs = [(5, d)]) ∨ (am = 0 ∧ vd = 0 ∧ rs = O) ∨ ((am != 0) = true ∧ (am == bm) = false ∧ vd = 0 ∧ rs = O))) := by
    rcases way' with h | ⟨h, h1, h2, h3, h4⟩ | ⟨h, h1, h2, h3⟩
    · exact .inl h
    · refine .inr ⟨?_, .inl ⟨bne_iff_ne.2 h1, h2, h3, h4⟩⟩
      cases sa
      · exact .inl rfl
      · exact .inr ⟨rfl, by simpa using h⟩
    · refine .inr ⟨?_, ?_⟩
      · cases sa
        · exact .inl rfl
        · exact .inr ⟨rfl, by simpa using h⟩
      · by_cases h0 : am = 0
        · exact .inr (.inl ⟨h0, h2, h3⟩)
        · exact .inr (.inr ⟨bne_iff_ne.2 h0, beq_eq_false_iff_ne.2 (by simpa [h0] using h1), h2, h3⟩)
  clear way'
  rcases tail with ⟨rfl, rfl, rfl, d, rfl⟩ | ⟨hs, h⟩
  · obtain ⟨b6, f6, cap6, rfl⟩ := reads_pos Q6.out (by simp)
    have d0 : w6.cell? ⟨b6, f6, none⟩ = some (.int .i64 18) := (reads_cells Q6.out 0 (by simp)).1
    have ix := opt_index b6 f6 1 cap6 0 (by decide)
    go_wp2_with fail
    go_ret
    exact ⟨rfl, B6.out⟩
  · rcases h with ⟨h1, rfl, rfl, d, rfl⟩ | ⟨rfl, rfl, rfl⟩ | ⟨h1, h2, rfl, rfl⟩
    · obtain ⟨b6, f6, cap6, rfl⟩ := reads_pos Q6.out (by simp)
      have d0 : w6.cell? ⟨b6, f6, none⟩ = some (.int .i64 5) := (reads_cells Q6.out 0 (by simp)).1
      have ix := opt_index b6 f6 1 cap6 0 (by decide)
      rcases hs with rfl | ⟨rfl, rfl⟩
      all_goals go_wp2_with fail
      all_goals go_ret
      all_goals exact ⟨rfl, B6.out⟩
    · have SM := Lib.hid (sameO_any _ _ _ _ _ Q6.out R6.out (by omega) (by omega))
      rw [decide_eq_true rfl] at SM
      rcases hs with rfl | ⟨rfl, rfl⟩
      all_goals go_wp2_with (go_at_call 15; (with_reducible refine SM.out.mono ?_); rintro e w7 ⟨rfl, hb7⟩; have B7 := Lib.hid (bel2 B6.out hb7); clear hb7)
      all_goals go_ret
      all_goals exact ⟨rfl, B7.out⟩
    · have SM := Lib.hid (sameO_any _ _ _ _ _ Q6.out R6.out (by omega) (by omega))
      rw [decide_eq_true rfl] at SM
      rcases hs with rfl | ⟨rfl, rfl⟩
      all_goals go_wp2_with (go_at_call 15; (with_reducible refine SM.out.mono ?_); rintro e w7 ⟨rfl, hb7⟩; have B7 := Lib.hid (bel2 B6.out hb7); clear hb7)
      all_goals go_ret
      all_goals exact ⟨rfl, B7.out⟩
set_option maxHeartbeats 1600000 in
set_option maxRecDepth 100000 in
theorem back_no (a b : Pol.Lk) (w : World) (PO : Hid (PolOk w))
    (A : Hid (∀ W, Below w.heap.size w W → Calls Try.prog 10 #[lv a] W fun e w' => ∃ v, e = .returned (.tuple #[v, .int .i64 1400]) ∧ ReadsO w' v [] ∧ Below W.heap.size W w')) :
    Calls Try.prog 3 #[.agg (lcs a).toArray, .agg (lcs b).toArray] w fun e w' => e = .returned (.bool true) ∧ Below w.heap.size w w' := by
  have K1 : Hid (Lnk w.heap.size ((w.alloc (.cells (lcs a).toArray 23)).alloc (.cells (lcs b).toArray 23)) a) := Lib.hid ((Lnk.new w a).below ((Below.refl _ _).alloc (Nat.le_refl _) _))
  have J1 : Hid (Lnk (w.heap.size + 1) ((w.alloc (.cells (lcs a).toArray 23)).alloc (.cells (lcs b).toArray 23)) b) := Lib.hid (Lnk.new_at _ b _ (by simp))
  have B1 := Lib.hid (((Below.refl w.heap.size w).alloc (Nat.le_refl _) (.cells (lcs a).toArray 23)).alloc (by simp) (.cells (lcs b).toArray 23))
  clear J1
  go_enter Try.func3, Try.ntmps3
  go_wp2_with (first | (refine step_link rfl _ rfl w.heap.size a rfl (by with_reducible first | exact K2.out) ?_) |
    (go_at_call 9; (refine (awake_any _ (Lib.hid (PO.out.later B1.out))).mono ?_); rintro e w2 ⟨rfl, hb2⟩; have K2 := Lib.hid (K1.out.below hb2); have B2 := Lib.hid (bel2 B1.out hb2); clear hb2) |
    (go_at_call 10; (with_reducible refine (A.out _ B2.out).mono ?_); rintro e w3 ⟨v3, rfl, r3, hb3⟩; obtain ⟨p3, cap3, rfl⟩ := reads_form r3; have B3 := Lib.hid (bel2 B2.out hb3); clear r3 hb3) |
    (go_at_call 11; (refine (num_any _ _).mono ?_); rintro e w10 ⟨rfl, rfl⟩))
  go_ret
  exact ⟨rfl, B3.out⟩
set_option maxHeartbeats 1600000 in
set_option maxRecDepth 100000 in
theorem back_badb (a b : Pol.Lk) (O : List Pol.Op) (n : Nat) (w : World) (PO : Hid (PolOk w)) (hn : O.length = n)
    (A : Hid (∀ W, Below w.heap.size w W → Calls Try.prog 10 #[lv a] W fun e w' => ∃ v, e = .returned (.tuple #[v, .int .i64 0]) ∧ ReadsO w' v O ∧ Below W.heap.size W w'))
    (T : Hid (∀ v W, Below w.heap.size w W → ReadsO W v O → Calls Try.prog 12 #[v] W fun e w' => e = .returned (.tuple #[lv a, .int .i64 0]) ∧ Below W.heap.size W w'))
    (J : Hid (∀ v W, Below w.heap.size w W → ReadsO W v O → Calls Try.prog 13 #[lv b, v] W fun e w' => ∃ u, e = .returned (.tuple #[.int .i64 0, u, .int .i64 1400]) ∧ ReadsO w' u [] ∧ Below W.heap.size W w'))
    (MB : Hid (∀ W, Calls Try.prog 14 #[lv b] W fun e w' => e = .returned (.bool false) ∧ Below W.heap.size W w')) :
    Calls Try.prog 3 #[.agg (lcs a).toArray, .agg (lcs b).toArray] w fun e w' => e = .returned (.bool true) ∧ Below w.heap.size w w' := by
  have HN := Lib.hid hn
  have K1 : Hid (Lnk w.heap.size ((w.alloc (.cells (lcs a).toArray 23)).alloc (.cells (lcs b).toArray 23)) a) := Lib.hid ((Lnk.new w a).below ((Below.refl _ _).alloc (Nat.le_refl _) _))
  have J1 : Hid (Lnk (w.heap.size + 1) ((w.alloc (.cells (lcs a).toArray 23)).alloc (.cells (lcs b).toArray 23)) b) := Lib.hid (Lnk.new_at _ b _ (by simp))
  have B1 := Lib.hid (((Below.refl w.heap.size w).alloc (Nat.le_refl _) (.cells (lcs a).toArray 23)).alloc (by simp) (.cells (lcs b).toArray 23))
  have e1 := link_neq a
  have g1 := fun op x y W => guard_lv op x y a a W
  clear hn
  go_enter Try.func3, Try.ntmps3
  go_wp2_with (first | (refine step_link rfl _ rfl w.heap.size a rfl (by with_reducible first | exact K2.out | exact K5.out) ?_) | (refine step_link rfl _ rfl (w.heap.size + 1) b rfl (by with_reducible first | exact J5.out | exact J6.out) ?_) | (refine step_link rfl _ rfl w4.heap.size a rfl (by with_reducible exact N5.out) ?_) |
    (go_at_call 9; (refine (awake_any _ (Lib.hid (PO.out.later B1.out))).mono ?_); rintro e w2 ⟨rfl, hb2⟩; have K2 := Lib.hid (K1.out.below hb2); have J2 := Lib.hid (J1.out.below hb2); have B2 := Lib.hid (bel2 B1.out hb2); clear hb2) |
    (go_at_call 10; (with_reducible refine (A.out _ B2.out).mono ?_); rintro e w3 ⟨v3, rfl, r3, hb3⟩; obtain ⟨p3, cap3, rfl⟩ := reads_form r3; rw [HN.out] at r3; rw [HN.out]; have R3 := Lib.hid r3; have K3 := Lib.hid (K2.out.below hb3); have J3 := Lib.hid (J2.out.below hb3); have B3 := Lib.hid (bel2 B2.out hb3); clear r3 hb3) |
    (go_at_call 12; (with_reducible refine (T.out _ _ B3.out R3.out).mono ?_); rintro e w4 ⟨rfl, hb4⟩; have R4 := Lib.hid (R3.out.below hb4); have K4 := Lib.hid (K3.out.below hb4); have J4 := Lib.hid (J3.out.below hb4); have B4 := Lib.hid (bel2 B3.out hb4); clear hb4) |
    (refine step_keep rfl _ _ rfl w4.heap.size Pol.zero a rfl rfl (by with_reducible exact kz w4) ?_; intro w5 n5 g5; have hq5 := kept_new rfl g5; have N5 := Lib.hid n5; have R5 := Lib.hid (R4.out.below hq5); have K5 := Lib.hid (K4.out.below hq5); have J5 := Lib.hid (J4.out.below hq5); have B5 := Lib.hid (bel2 B4.out hq5); clear n5 g5 hq5) |
    (go_at_call 13; (with_reducible refine (J.out _ _ B5.out R5.out).mono ?_); rintro e w6 ⟨u6, rfl, r6, hb6⟩; have Q6 := Lib.hid r6; have R6 := Lib.hid (R5.out.below hb6); have K6 := Lib.hid (K5.out.below hb6); have J6 := Lib.hid (J5.out.below hb6); have B6 := Lib.hid (bel2 B5.out hb6); clear r6 hb6) |
    (go_at_call 14; (with_reducible refine (MB.out _).mono ?_); rintro e w7 ⟨rfl, hb7⟩; have B7 := Lib.hid (bel2 B6.out hb7); clear hb7) |
    (go_at_call 11; (refine (num_any _ _).mono ?_); rintro e w10 ⟨rfl, rfl⟩))
  go_ret
  exact ⟨rfl, B7.out⟩
theorem walk_back (a b : Pol.Lk) (w : World) (PO : PolOk w) :
    Calls Try.prog 3 #[lv a, lv b] w fun e w' => e = .returned (.bool true) ∧ Below w.heap.size w w' := by
  by_cases hm : Pol.may a = true
  · have eA : Pol.ask a = (Pol.asks a, 0) := by unfold Pol.ask; rw [if_pos hm]
    have hlen := Pol.asks_length a
    have hdat : ∀ o ∈ Pol.asks a, o.2.length ≤ 1000000 := fun o ho => by
      have h := Pol.fit_right o (Pol.right_asks a hm o ho)
      unfold Pol.fit at h
      simp at h
      omega
    have A : Hid (∀ W, Below w.heap.size w W → Calls Try.prog 10 #[lv a] W fun e w' => ∃ v, e = .returned (.tuple #[v, .int .i64 0]) ∧ ReadsO w' v (Pol.asks a) ∧ Below W.heap.size W w') := Lib.hid fun W k => by
      have h := PO.ask a W k
      rwa [eA] at h
    have T : Hid (∀ v W, Below w.heap.size w W → ReadsO W v (Pol.asks a) → Calls Try.prog 12 #[v] W fun e w' => e = .returned (.tuple #[lv a, .int .i64 0]) ∧ Below W.heap.size W w') := Lib.hid fun v W k r => by
      have h := PO.taken v (Pol.asks a) W k r (by omega) (Pol.asks_range a) hdat
      rwa [Pol.taken_asks a hm] at h
    by_cases hb : Pol.may b = true
    · have eJ := Pol.judge_asks a b hm hb
      refine back_good a b (Pol.asks a) (Pol.judge nm b (Pol.asks a)).2.1 (Pol.asks a).length (Pol.judge nm b (Pol.asks a)).1 w (Lib.hid PO) rfl (Lib.hid (by omega)) A T (Lib.hid fun v W k r => ?_) (Lib.hid ?_)
      · have h := PO.judge b v (Pol.asks a) W k r (by omega)
        have e2 : (Pol.judge nm b (Pol.asks a)).2.2 = 0 := by
          rw [eJ]
          split
          · rfl
          · split <;> rfl
        rwa [e2] at h
      · rw [eJ]
        by_cases hs : a.short = true ∧ b.short = false
        · rw [if_pos hs]
          exact .inl ⟨hs.1, hs.2, rfl, _, rfl⟩
        · have hs2 : a.short = false ∨ b.short = true := by
            cases h1 : a.short
            · exact .inl rfl
            · cases h2 : b.short
              · exact absurd ⟨h1, h2⟩ hs
              · exact .inr rfl
          rw [if_neg hs]
          by_cases h5 : a.magic ≠ 0 ∧ a.magic = b.magic
          · rw [if_pos h5]
            exact .inr (.inl ⟨hs2, h5.1, h5.2, rfl, _, rfl⟩)
          · rw [if_neg h5]
            refine .inr (.inr ⟨hs2, ?_, rfl, rfl⟩)
            by_cases h0 : a.magic = 0
            · exact .inl h0
            · exact .inr fun h => h5 ⟨h0, h⟩
    · have hb2 : Pol.may b = false := by simpa using hb
      refine back_badb a b (Pol.asks a) (Pol.asks a).length w (Lib.hid PO) rfl A T (Lib.hid fun v W k r => ?_) (Lib.hid fun W => ?_)
      · have h := PO.judge b v (Pol.asks a) W k r (by omega)
        have e : Pol.judge nm b (Pol.asks a) = (0, [], 1400) := by unfold Pol.judge; rw [hb2]; rfl
        rwa [e] at h
      · have h := may_any b W
        rwa [hb2] at h
  · refine back_no a b w (Lib.hid PO) (Lib.hid fun W k => ?_)
    have h := PO.ask a W k
    have e : Pol.ask a = ([], 1400) := by unfold Pol.ask; rw [if_neg hm]
    rwa [e] at h
end Go.Proofs.Ytiadndcodjpijaa.Pl
