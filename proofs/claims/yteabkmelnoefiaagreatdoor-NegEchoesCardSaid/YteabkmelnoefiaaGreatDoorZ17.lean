/-
  The program's judge of options: what no packet can hold; the walk.
-/
import Derived.Test.YteabkmelnoefiaaGreatDoorZ16
import Derived.Test.YteabkmelnoefiaaGreatDoorZ10
namespace Go.Proofs.YteabkmelnoefiaaGreatDoor.Pr
open Go.RowKit
set_option maxRecDepth 100000
theorem beyond_any (W : World) (o : Opt.Op) : Calls Tryz.prog 100 #[.agg #[.int .i64 o.1, .string ⟨o.2.toArray⟩]] W fun e w' => e = .returned (.bool (!Pol.fit o)) ∧ Below W.heap.size W w' := by
  obtain ⟨z, d⟩ := o
  obtain ⟨m, hm⟩ : ∃ m, m = z % 256 := ⟨_, rfl⟩
  have b1 : 0 ≤ m := by omega
  have b2 : m ≤ 255 := by omega
  have hk : Hid ((!Pol.fit (z, d)) = (!(z == m) || decide ((d.length : Int) > 253))) := Lib.hid (by
    unfold Pol.fit
    rw [Bool.eq_iff_iff]
    simp only [Bool.not_eq_true', Bool.and_eq_false_iff, decide_eq_false_iff_not, Bool.or_eq_true, beq_eq_false_iff_ne, decide_eq_true_eq]
    omega)
  cases hq : (z == m)
  all_goals
    rw [hq] at hk
    have hb : (z != m) = !(z == m) := rfl
    rw [hq] at hb
    simp only [Bool.not_true, Bool.not_false] at hb
    have h0 : z % 256 = m := hm.symm
    clear hm
    go_enter Tryz.func100, Tryz.ntmps100
    go_wp2_with fail
    go_ret
    exact ⟨ret_bool (by rw [hk.out]; first | rfl | simp), (Below.refl _ _).alloc (Nat.le_refl _) _⟩
theorem any_fits (os : List Opt.Op) : os.any (fun o => !Pol.fit o) = !Pol.fits os := by
  unfold Pol.fits
  rw [List.all_eq_not_any_not, Bool.not_not]
theorem fits_of (os : List Opt.Op) (h : Pol.fits os = true) : ∀ o ∈ os, 0 ≤ o.1 ∧ o.1 ≤ 255 ∧ o.2.length ≤ 253 := by
  intro o ho
  unfold Pol.fits at h
  rw [List.all_eq_true] at h
  have h := h o ho
  unfold Pol.fit at h
  simp only [Bool.and_eq_true, decide_eq_true_eq] at h
  exact ⟨h.1.1, h.1.2, h.2⟩
theorem rejs_none (own : Pol.Lk) (os : List Opt.Op) : ∀ n, Pol.rejs own os n = [] → ∀ k, k < n → Pol.bad own os k = false := by
  intro n
  induction n with
  | zero => intro _ k hk; omega
  | succ n ih =>
    intro h k hk
    rw [rejs_snoc, List.append_eq_nil_iff] at h
    by_cases e : k = n
    · subst e
      cases hb : Pol.bad own os k
      · rfl
      · rw [hb] at h; simp at h
    · exact ih h.1 k (by omega)
/-- How the program's row of rules lies in a world: the link's block, the row's. -/
def Row (B S : Nat) (W : World) (l : Pol.Lk) : Prop := Pl.Lnk B W l ∧ Arr S W (scs B)
theorem Row.below {B S : Nat} {W W' : World} {l : Pol.Lk} (h : Row B S W l) (k : Below W.heap.size W W') : Row B S W' l := ⟨h.1.below k, h.2.below k⟩
theorem Row.load {B S : Nat} {W : World} {l : Pol.Lk} {SC : Array Value} (h : Row B S W l) (e : SC = (scs B).toArray) : (loadVar 97 ⟨S, 0, none⟩).run Tryz.prog W = .ok (.agg SC) W := by rw [e]; exact side_load h.2
/-- The row stored into a variable that is new. -/
theorem row_new {B : Nat} {W : World} {l : Pol.Lk} {SC : Array Value} (h : Pl.Lnk B W l) (e : SC = (scs B).toArray) : ∃ w', (storeVar 97 ⟨W.heap.size, 0, none⟩ (.agg SC)).run Tryz.prog (W.alloc (.cells zside.toArray 97)) = .ok () w' ∧ Row B W.heap.size w' l ∧ Below W.heap.size W w' := by
  subst e
  obtain ⟨w', h1, h2, h3⟩ := (Arr.new W zside 97).store (ds := scs B) 97 infoS rfl (scs_one B)
  have hb := Pl.kept_new rfl h3
  exact ⟨w', h1, ⟨h.below hb, h2⟩, hb⟩
set_option maxHeartbeats 3200000 in
set_option maxRecDepth 100000 in
theorem judge_own (own : Pol.Lk) (v : Value) (os : List Opt.Op) (w : World) (hr : ReadsO w v os) (hl : os.length ≤ 1000000) :
    Calls Tryz.prog 90 #[.agg (Pl.lcs own).toArray, v] w fun e w' => ∃ u, e = .returned (.tuple #[.int .i64 (Pol.judge nm own os).1, u, .int .i64 (Pol.judge nm own os).2.2]) ∧ OwnsO w w' u (Pol.judge nm own os).2.1 := by
  have HR := Lib.hid hr
  obtain ⟨w1, hw1⟩ : ∃ w1, w1 = w.alloc (.cells (Pl.lcs own).toArray 23) := ⟨_, rfl⟩
  have H1 : Hid (Below w.heap.size w w1) := Lib.hid (hw1 ▸ (Below.refl w.heap.size w).alloc (Nat.le_refl _) _)
  have L1 : Hid (Pl.Lnk w.heap.size w1 own) := Lib.hid (hw1 ▸ Pl.Lnk.new w own)
  obtain ⟨SC, hSC⟩ : ∃ SC, SC = (scs w.heap.size).toArray := ⟨_, rfl⟩
  have SA := Lib.hid fun W => side_any w.heap.size W
  have SM := Lib.hid fun W h => side_may w.heap.size own W h
  rw [← hSC] at SA SM
  have HSC := Lib.hid hSC
  clear hSC
  have HJ : Hid (Pol.judge nm own os = if Pol.may own && Pol.fits os then (if Pol.rejs own os os.length ≠ [] then (2, Pol.rejs own os os.length, 0) else if Pol.naks nm own os os.length ≠ [] then (1, Pol.naks nm own os os.length, 0) else (0, os, 0)) else (0, [], 1400)) := Lib.hid rfl
  obtain ⟨J, hJ⟩ : ∃ J, J = Pol.judge nm own os := ⟨_, rfl⟩
  rw [← hJ] at HJ ⊢
  clear hJ hr
  cases hm : Pol.may own
  · rw [hm] at SM HJ
    have HE : J = (0, [], 1400) := HJ.out
    subst HE
    clear HJ hm
    go_enter Tryz.func90, Tryz.ntmps90
    go_wp2_with fail
    rw [← hw1]
    clear hw1
    go_wp2_with (first | (go_at_call 48; (refine (SA.out _).mono ?_); rintro e w2 ⟨rfl, hb2⟩; obtain ⟨w3, hs3, hr3, hb3⟩ := row_new (L1.out.below hb2) HSC.out; have HST := Lib.hid hs3; have HR3 := Lib.hid hr3; have HL3 := Lib.hid (hr3.load HSC.out); have HB3 := Lib.hid (bel2 (bel2 H1.out hb2) hb3); clear hs3 hr3 hb2 hb3) | (refine wpList_store rfl _ _ _ rfl ⟨w2.heap.size, 0, none⟩ _ w3 rfl rfl HST.out ?_) | (refine wpList_load rfl 97 _ rfl ⟨w2.heap.size, 0, none⟩ _ rfl (by with_reducible first | exact HL3.out | exact HL5.out | exact HL6.out) ?_) | (go_at_call 49; (refine (SM.out _ HR3.out.1).mono ?_); rintro e w4 ⟨rfl, hb4⟩; have HB4 := Lib.hid (bel2 HB3.out hb4); have HR4 := Lib.hid (HR3.out.below hb4); clear hb4))
    go_returns
    exact ⟨_, rfl, World.ownsRow_nil _ _ _ _, HB4.out⟩
  · rw [hm] at SM HJ
    have HPL := Lib.hid (may_plain own hm)
    have CF := Lib.hid fun W h => O.contains_with 100 (fun o => !Pol.fit o) v os W h (by omega) (enters_of Tryz.func100 (by kernel_rfl) rfl) beyond_any
    rw [any_fits] at CF
    clear hm
    cases hf : Pol.fits os
    · rw [hf] at CF HJ
      have HE : J = (0, [], 1400) := HJ.out
      subst HE
      clear HJ hf
      go_enter Tryz.func90, Tryz.ntmps90
      go_wp2_with fail
      rw [← hw1]
      clear hw1
      go_wp2_with (first | (go_at_call 48; (refine (SA.out _).mono ?_); rintro e w2 ⟨rfl, hb2⟩; obtain ⟨w3, hs3, hr3, hb3⟩ := row_new (L1.out.below hb2) HSC.out; have HST := Lib.hid hs3; have HR3 := Lib.hid hr3; have HL3 := Lib.hid (hr3.load HSC.out); have HB3 := Lib.hid (bel2 (bel2 H1.out hb2) hb3); clear hs3 hr3 hb2 hb3) | (refine wpList_store rfl _ _ _ rfl ⟨w2.heap.size, 0, none⟩ _ w3 rfl rfl HST.out ?_) | (refine wpList_load rfl 97 _ rfl ⟨w2.heap.size, 0, none⟩ _ rfl (by with_reducible first | exact HL3.out | exact HL5.out | exact HL6.out) ?_) | (go_at_call 49; (refine (SM.out _ HR3.out.1).mono ?_); rintro e w4 ⟨rfl, hb4⟩; have HB4 := Lib.hid (bel2 HB3.out hb4); have HR4 := Lib.hid (HR3.out.below hb4); clear hb4) | (go_at_call 97; (refine (CF.out _ (HR.out.below HB4.out)).mono ?_); rintro e w5 ⟨rfl, hb5⟩; have HB5 := Lib.hid (bel2 HB4.out hb5); have HR5 := Lib.hid (HR4.out.below hb5); have HL5 := Lib.hid (HR5.out.load HSC.out); clear hb5))
      go_returns
      exact ⟨_, rfl, World.ownsRow_nil _ _ _ _, HB5.out⟩
    · rw [hf] at CF HJ
      have hfo := fits_of os hf
      have RJ := Lib.hid fun W hL hR => rej_any w.heap.size own W hL v os hR hl (fun o ho => ⟨(hfo o ho).1, (hfo o ho).2.1⟩) (fun o ho => by have := (hfo o ho).2.2; omega)
      have BT : Hid (Pol.rejs own os os.length = [] → ∀ W, Pl.Lnk w.heap.size W own → ReadsO W v os → Calls Tryz.prog 102 #[.agg SC, v] W fun e w' => ∃ u, e = .returned u ∧ OwnsO W w' u (Pol.naks nm own os os.length)) := Lib.hid fun hz W hL hR => by
        have h := bet_any w.heap.size own W hL HPL.out v os hR hl (fun o ho => by have := (hfo o ho).2.2; omega) (rejs_none own os _ hz)
        rwa [← HSC.out] at h
      have CP := Lib.hid fun W hR => copied_any v os W hR (by omega) (fun o ho => by have := (hfo o ho).2.2; omega)
      rw [← HSC.out] at RJ
      clear hf hfo
      have HJ2 : Hid (J = if Pol.rejs own os os.length ≠ [] then (2, Pol.rejs own os os.length, 0) else if Pol.naks nm own os os.length ≠ [] then (1, Pol.naks nm own os os.length, 0) else (0, os, 0)) := Lib.hid HJ.out
      clear HJ
      generalize Pol.rejs own os os.length = RL at *
      generalize Pol.naks nm own os os.length = NL at *
      cases RL with
      | cons x xs =>
        have HE : J = (2, x :: xs, 0) := by rw [HJ2.out, if_pos (by simp)]
        subst HE
        clear HJ2 BT CP
        go_enter Tryz.func90, Tryz.ntmps90
        go_wp2_with fail
        rw [← hw1]
        clear hw1
        go_wp2_with (first | (go_at_call 48; (refine (SA.out _).mono ?_); rintro e w2 ⟨rfl, hb2⟩; obtain ⟨w3, hs3, hr3, hb3⟩ := row_new (L1.out.below hb2) HSC.out; have HST := Lib.hid hs3; have HR3 := Lib.hid hr3; have HL3 := Lib.hid (hr3.load HSC.out); have HB3 := Lib.hid (bel2 (bel2 H1.out hb2) hb3); clear hs3 hr3 hb2 hb3) | (refine wpList_store rfl _ _ _ rfl ⟨w2.heap.size, 0, none⟩ _ w3 rfl rfl HST.out ?_) | (refine wpList_load rfl 97 _ rfl ⟨w2.heap.size, 0, none⟩ _ rfl (by with_reducible first | exact HL3.out | exact HL5.out | exact HL6.out) ?_) | (go_at_call 49; (refine (SM.out _ HR3.out.1).mono ?_); rintro e w4 ⟨rfl, hb4⟩; have HB4 := Lib.hid (bel2 HB3.out hb4); have HR4 := Lib.hid (HR3.out.below hb4); clear hb4) | (go_at_call 97; (refine (CF.out _ (HR.out.below HB4.out)).mono ?_); rintro e w5 ⟨rfl, hb5⟩; have HB5 := Lib.hid (bel2 HB4.out hb5); have HR5 := Lib.hid (HR4.out.below hb5); have HL5 := Lib.hid (HR5.out.load HSC.out); clear hb5) | (go_at_call 101; (refine (RJ.out _ HR5.out.1 (HR.out.below HB5.out)).mono ?_); rintro e w6 ⟨u6, rfl, ho6⟩; obtain ⟨p6, cap6, rfl⟩ := ho6.form2; have HO6 := Lib.hid ho6; have HB6 := Lib.hid (bel2 HB5.out ho6.2); have HR6 := Lib.hid (HR5.out.below ho6.2); have HL6 := Lib.hid (HR6.out.load HSC.out); clear ho6))
        go_returns
        exact ⟨_, rfl, HO6.out.base HB5.out⟩
      | nil =>
        have BT2 : Hid (∀ W, Pl.Lnk w.heap.size W own → ReadsO W v os → Calls Tryz.prog 102 #[.agg SC, v] W fun e w' => ∃ u, e = .returned u ∧ OwnsO W w' u NL) := Lib.hid (BT.out rfl)
        clear BT
        cases NL with
        | cons x xs =>
          have HE : J = (1, x :: xs, 0) := by rw [HJ2.out, if_neg (by simp), if_pos (by simp)]
          subst HE
          clear HJ2 CP
          go_enter Tryz.func90, Tryz.ntmps90
          go_wp2_with fail
          rw [← hw1]
          clear hw1
          go_wp2_with (first | (go_at_call 48; (refine (SA.out _).mono ?_); rintro e w2 ⟨rfl, hb2⟩; obtain ⟨w3, hs3, hr3, hb3⟩ := row_new (L1.out.below hb2) HSC.out; have HST := Lib.hid hs3; have HR3 := Lib.hid hr3; have HL3 := Lib.hid (hr3.load HSC.out); have HB3 := Lib.hid (bel2 (bel2 H1.out hb2) hb3); clear hs3 hr3 hb2 hb3) | (refine wpList_store rfl _ _ _ rfl ⟨w2.heap.size, 0, none⟩ _ w3 rfl rfl HST.out ?_) | (refine wpList_load rfl 97 _ rfl ⟨w2.heap.size, 0, none⟩ _ rfl (by with_reducible first | exact HL3.out | exact HL5.out | exact HL6.out) ?_) | (go_at_call 49; (refine (SM.out _ HR3.out.1).mono ?_); rintro e w4 ⟨rfl, hb4⟩; have HB4 := Lib.hid (bel2 HB3.out hb4); have HR4 := Lib.hid (HR3.out.below hb4); clear hb4) | (go_at_call 97; (refine (CF.out _ (HR.out.below HB4.out)).mono ?_); rintro e w5 ⟨rfl, hb5⟩; have HB5 := Lib.hid (bel2 HB4.out hb5); have HR5 := Lib.hid (HR4.out.below hb5); have HL5 := Lib.hid (HR5.out.load HSC.out); clear hb5) | (go_at_call 101; (refine (RJ.out _ HR5.out.1 (HR.out.below HB5.out)).mono ?_); rintro e w6 ⟨u6, rfl, ho6⟩; obtain ⟨p6, cap6, rfl⟩ := ho6.form2; have HO6 := Lib.hid ho6; have HB6 := Lib.hid (bel2 HB5.out ho6.2); have HR6 := Lib.hid (HR5.out.below ho6.2); have HL6 := Lib.hid (HR6.out.load HSC.out); clear ho6) | (go_at_call 102; (refine (BT2.out _ HR6.out.1 (HR.out.below HB6.out)).mono ?_); rintro e w7 ⟨u7, rfl, ho7⟩; obtain ⟨p7, cap7, rfl⟩ := ho7.form2; have HO7 := Lib.hid ho7; have HB7 := Lib.hid (bel2 HB6.out ho7.2); clear ho7))
          go_returns
          exact ⟨_, rfl, HO7.out.base HB6.out⟩
        | nil =>
          have HE : J = (0, os, 0) := by rw [HJ2.out, if_neg (by simp), if_neg (by simp)]
          subst HE
          clear HJ2
          go_enter Tryz.func90, Tryz.ntmps90
          go_wp2_with fail
          rw [← hw1]
          clear hw1
          go_wp2_with (first | (go_at_call 48; (refine (SA.out _).mono ?_); rintro e w2 ⟨rfl, hb2⟩; obtain ⟨w3, hs3, hr3, hb3⟩ := row_new (L1.out.below hb2) HSC.out; have HST := Lib.hid hs3; have HR3 := Lib.hid hr3; have HL3 := Lib.hid (hr3.load HSC.out); have HB3 := Lib.hid (bel2 (bel2 H1.out hb2) hb3); clear hs3 hr3 hb2 hb3) | (refine wpList_store rfl _ _ _ rfl ⟨w2.heap.size, 0, none⟩ _ w3 rfl rfl HST.out ?_) | (refine wpList_load rfl 97 _ rfl ⟨w2.heap.size, 0, none⟩ _ rfl (by with_reducible first | exact HL3.out | exact HL5.out | exact HL6.out) ?_) | (go_at_call 49; (refine (SM.out _ HR3.out.1).mono ?_); rintro e w4 ⟨rfl, hb4⟩; have HB4 := Lib.hid (bel2 HB3.out hb4); have HR4 := Lib.hid (HR3.out.below hb4); clear hb4) | (go_at_call 97; (refine (CF.out _ (HR.out.below HB4.out)).mono ?_); rintro e w5 ⟨rfl, hb5⟩; have HB5 := Lib.hid (bel2 HB4.out hb5); have HR5 := Lib.hid (HR4.out.below hb5); have HL5 := Lib.hid (HR5.out.load HSC.out); clear hb5) | (go_at_call 101; (refine (RJ.out _ HR5.out.1 (HR.out.below HB5.out)).mono ?_); rintro e w6 ⟨u6, rfl, ho6⟩; obtain ⟨p6, cap6, rfl⟩ := ho6.form2; have HO6 := Lib.hid ho6; have HB6 := Lib.hid (bel2 HB5.out ho6.2); have HR6 := Lib.hid (HR5.out.below ho6.2); have HL6 := Lib.hid (HR6.out.load HSC.out); clear ho6) | (go_at_call 102; (refine (BT2.out _ HR6.out.1 (HR.out.below HB6.out)).mono ?_); rintro e w7 ⟨u7, rfl, ho7⟩; obtain ⟨p7, cap7, rfl⟩ := ho7.form2; have HO7 := Lib.hid ho7; have HB7 := Lib.hid (bel2 HB6.out ho7.2); clear ho7) | (go_at_call 103; (refine (CP.out _ (HR.out.below HB7.out)).mono ?_); rintro e w8 ⟨u8, rfl, ho8⟩; have HO8 := Lib.hid ho8; have HB8 := Lib.hid (bel2 HB7.out ho8.2); clear ho8))
          go_returns
          exact ⟨_, rfl, HO8.out.base HB7.out⟩
theorem judge_any (own : Pol.Lk) (v : Value) (os : List Opt.Op) (w : World) (hr : ReadsO w v os) (hl : os.length ≤ 1000000) :
    Calls Tryz.prog 90 #[.agg (Pl.lcs own).toArray, v] w fun e w' => ∃ u, e = .returned (.tuple #[.int .i64 (Pol.judge nm own os).1, u, .int .i64 (Pol.judge nm own os).2.2]) ∧ ReadsO w' u (Pol.judge nm own os).2.1 ∧ Below w.heap.size w w' := by
  refine (judge_own own v os w hr hl).mono ?_
  rintro e w' ⟨u, h1, h2⟩
  exact ⟨u, h1, h2.reads, h2.2⟩
end Go.Proofs.YteabkmelnoefiaaGreatDoor.Pr
