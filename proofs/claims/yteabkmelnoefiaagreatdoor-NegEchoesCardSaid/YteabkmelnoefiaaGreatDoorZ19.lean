/-
  Which link asks by options: the program's Taken. (gen_pre.py)
-/
import Derived.Test.YteabkmelnoefiaaGreatDoorZ18
namespace Go.Proofs.YteabkmelnoefiaaGreatDoor.Pr
open Go.RowKit
set_option maxRecDepth 100000
def l2 : Pol.Lk := ⟨0, 0, 0, true, [], 0⟩
theorem fine_bad (os : List Opt.Op) (k : Nat) : Pol.fine os k = !Pol.bad l2 os k := by
  unfold Pol.fine Pol.bad l2
  cases Pol.right (Pol.g os k) <;> cases Pol.twice os k <;> simp
theorem fine_rejs (os : List Opt.Op) : ∀ n, Pol.allFine os n = (Pol.rejs l2 os n).isEmpty := by
  intro n
  induction n with
  | zero => rfl
  | succ n ih =>
    rw [rejs_snoc, show Pol.allFine os (n + 1) = (Pol.allFine os n && Pol.fine os n) from rfl, ih, fine_bad]
    cases Pol.bad l2 os n <;> simp
theorem takes_at (l : Pol.Lk) (o : Opt.Op) (hk : at' o.1 < 6) : Pol.takes nm l o = takeAt l (at' o.1) o.2 := by
  have e := kind_at o.1 hk
  obtain ⟨z, d⟩ := o
  simp only at *
  generalize at' z = k at *
  subst e
  match k, hk with
  | 0, _ => rfl
  | 1, _ => rfl
  | 2, _ => rfl
  | 3, _ => rfl
  | 4, _ => rfl
  | 5, _ => rfl
/-- What the walk of 'Taken' holds. -/
structure Tk (w : World) (S : Nat) (W : World) (l : Pol.Lk) : Prop where
  base : Below w.heap.size w W
  row : Row (w.heap.size + 1) S W l
  res : Pl.Lnk w.heap.size W Pol.zero
  far : w.heap.size + 1 < S
theorem Tk.below {w W W' : World} {S : Nat} {l : Pol.Lk} (h : Tk w S W l) (k : Below W.heap.size W W') : Tk w S W' l := ⟨bel2 h.base k, h.row.below k, h.res.below k, h.far⟩
theorem Tk.turn {w W W' : World} {S : Nat} {l l' : Pol.Lk} (h : Tk w S W l) (k : Pl.Lnk (w.heap.size + 1) W' l') (g : W.grownBy W' (some (w.heap.size + 1))) : Tk w S W' l' :=
  ⟨below_of_grown h.base g (Nat.le_succ _) rfl, ⟨k, h.row.2.grown g (fun e => by have := h.far; simp at e; omega)⟩, h.res.grown g (fun e => by simp at e), h.far⟩
set_option maxHeartbeats 6400000 in
set_option maxRecDepth 100000 in
theorem taken_any (v : Value) (os : List Opt.Op) (w : World) (hr : ReadsO w v os) (hl : os.length ≤ 1000000) (hk : ∀ o ∈ os, 0 ≤ o.1 ∧ o.1 ≤ 255) (hd : ∀ o ∈ os, o.2.length ≤ 1000000) :
    Calls Tryz.prog 96 #[v] w fun e w' => e = .returned (.tuple #[Pl.lv (Pol.taken nm os).1, .int .i64 (Pol.taken nm os).2]) ∧ Below w.heap.size w w' := by
  have HR := Lib.hid hr
  obtain ⟨q, cap, b, off, rfl, _, _, hi, hc⟩ := hr.at
  have HI := Lib.hid hi
  have HC := Lib.hid hc
  have HD := Lib.hid hd
  obtain ⟨w1, hw1⟩ : ∃ w1, w1 = (w.alloc (.cells #[.int .i64 0, .int .i64 0, .int .i64 0, .bool false, .string ⟨#[]⟩, .int .i64 0] 23)).alloc (.cells #[.int .i64 0, .int .i64 0, .int .i64 0, .bool false, .string ⟨#[]⟩, .int .i64 0] 23) := ⟨_, rfl⟩
  have H1 : Hid (Below w.heap.size w w1) := Lib.hid (hw1 ▸ ((Below.refl w.heap.size w).alloc (Nat.le_refl _) _).alloc (by simp) _)
  have Z1 : Hid (Pl.Lnk w.heap.size w1 Pol.zero) := Lib.hid (hw1 ▸ (Pl.Lnk.new w Pol.zero).below ((Below.refl _ _).alloc (Nat.le_refl _) _))
  have L1 : Hid (Pl.Lnk (w.heap.size + 1) w1 Pol.zero) := Lib.hid (hw1 ▸ Pl.Lnk.new_at (w.alloc (.cells #[.int .i64 0, .int .i64 0, .int .i64 0, .bool false, .string ⟨#[]⟩, .int .i64 0] 23)) Pol.zero _ (by simp))
  obtain ⟨SC, hSC⟩ : ∃ SC, SC = (scs (w.heap.size + 1)).toArray := ⟨_, rfl⟩
  have SA := Lib.hid fun W => side_any (w.heap.size + 1) W
  rw [← hSC] at SA
  have HSC := Lib.hid hSC
  have KL : Hid (∀ W : World, Pl.Lnk W.heap.size (W.alloc (.cells #[.int .i64 0, .int .i64 0, .int .i64 0, .bool true, .string ⟨#[]⟩, .int .i64 0] 23)) l2) := Lib.hid fun W => Pl.Lnk.new W l2
  have RJ := Lib.hid fun B W hL (hR : ReadsO W (.slice q os.length cap) os) => rej_any B l2 W hL _ os hR hl hk hd
  have HJ : Hid (Pol.taken nm os = if (Pol.rejs l2 os os.length).isEmpty && Pol.may (os.foldl (Pol.takes nm) Pol.zero) then (os.foldl (Pol.takes nm) Pol.zero, 0) else (Pol.zero, 1400)) := Lib.hid (by rw [← fine_rejs]; rfl)
  obtain ⟨J, hJ⟩ : ∃ J, J = Pol.taken nm os := ⟨_, rfl⟩
  rw [← hJ] at HJ ⊢
  have HRN := Lib.hid (rejs_none l2 os os.length)
  clear hJ hr hi hc hd hk hSC
  cases hrj : Pol.rejs l2 os os.length with
  | cons x xs =>
    rw [hrj] at RJ HJ
    have HE : J = (Pol.zero, 1400) := HJ.out
    subst HE
    clear hrj HJ HRN
    go_enter Tryz.func96, Tryz.ntmps96
    go_wp2_with fail
    rw [← hw1]
    clear hw1
    go_wp2_with (first | (go_at_call 48; (with_reducible refine (SA.out _).mono ?_); rintro e w2 ⟨rfl, hb2⟩; have Z2 := Lib.hid (Z1.out.below hb2); obtain ⟨w3, hs3, hr3, hb3⟩ := row_new (L1.out.below hb2) HSC.out; have HST := Lib.hid hs3; have HT3 : Hid (Tk w w2.heap.size w3 Pol.zero) := Lib.hid ⟨bel2 (bel2 H1.out hb2) hb3, hr3, Z2.out.below hb3, Nat.lt_of_lt_of_le L1.out.lt hb2.size⟩; obtain ⟨SC2, hSC2⟩ : ∃ SC2, SC2 = (scs w3.heap.size).toArray := ⟨_, rfl⟩; have SA2 := Lib.hid fun W => side_any w3.heap.size W; have RJ2 := Lib.hid fun W hL hR => RJ.out w3.heap.size W hL hR; rw [← hSC2] at SA2 RJ2; have HSC2 := Lib.hid hSC2; clear hs3 hr3 hb2 hb3 Z2 hSC2) | (refine wpList_store rfl _ _ _ rfl ⟨w2.heap.size, 0, none⟩ _ w3 rfl rfl HST.out ?_) | (go_at_call 48; (with_reducible refine (SA2.out _).mono ?_); rintro e w4 ⟨rfl, hb4⟩; have hq4 := bel2 ((Below.refl _ w3).alloc (Nat.le_refl _) _) hb4; have HT4 := Lib.hid (HT3.out.below hq4); obtain ⟨w5, hs5, hr5, hb5⟩ := row_new ((KL.out w3).below hb4) HSC2.out; have HST5 := Lib.hid hs5; have HR5 := Lib.hid hr5; have HT5 := Lib.hid (HT4.out.below hb5); have HL5 := Lib.hid (hr5.load HSC2.out); clear hs5 hr5 hb4 hq4 hb5) | (refine wpList_store rfl _ _ _ rfl ⟨w4.heap.size, 0, none⟩ _ w5 rfl rfl HST5.out ?_) | (refine wpList_load rfl 97 _ rfl ⟨w4.heap.size, 0, none⟩ _ rfl HL5.out ?_) | (go_at_call 101; (refine (RJ2.out _ HR5.out.1 (HR.out.below HT5.out.base)).mono ?_); rintro e w6 ⟨u6, rfl, ho6⟩; obtain ⟨p6, cap6, rfl⟩ := ho6.form2; have HT6 := Lib.hid (HT5.out.below ho6.2); clear ho6) | (refine Pl.step_keep rfl _ _ rfl w.heap.size Pol.zero Pol.zero rfl rfl HT6.out.res ?_; intro w7 n7 g7; have HZ := Lib.hid n7; have HB := Lib.hid (below_of_grown HT6.out.base g7 (Nat.le_refl _) rfl); clear n7 g7))
    have m0 := HZ.out.cell 0 _ rfl
    have m1 := HZ.out.cell 1 _ rfl
    have m2 := HZ.out.cell 2 _ rfl
    have m3 := HZ.out.cell 3 _ rfl
    have m4 := HZ.out.cell 4 _ rfl
    have m5 := HZ.out.cell 5 _ rfl
    refine bodyPost_ret (v := .tuple #[Pl.lv Pol.zero, .int .i64 1400]) (by simp [results, Tryz.results96, go_sem, m0, m1, m2, m3, m4, m5, Pl.lv, Pol.zero]) rfl ⟨rfl, HB.out⟩
  | nil =>
    have HN := Lib.hid (HRN.out hrj)
    rw [hrj] at RJ HJ
    clear hrj HRN
    go_enter Tryz.func96, Tryz.ntmps96
    go_wp2_with fail
    rw [← hw1]
    clear hw1
    go_wp2_with (first | (go_at_call 48; (with_reducible refine (SA.out _).mono ?_); rintro e w2 ⟨rfl, hb2⟩; have Z2 := Lib.hid (Z1.out.below hb2); obtain ⟨w3, hs3, hr3, hb3⟩ := row_new (L1.out.below hb2) HSC.out; have HST := Lib.hid hs3; have HT3 : Hid (Tk w w2.heap.size w3 Pol.zero) := Lib.hid ⟨bel2 (bel2 H1.out hb2) hb3, hr3, Z2.out.below hb3, Nat.lt_of_lt_of_le L1.out.lt hb2.size⟩; obtain ⟨SC2, hSC2⟩ : ∃ SC2, SC2 = (scs w3.heap.size).toArray := ⟨_, rfl⟩; have SA2 := Lib.hid fun W => side_any w3.heap.size W; have RJ2 := Lib.hid fun W hL hR => RJ.out w3.heap.size W hL hR; rw [← hSC2] at SA2 RJ2; have HSC2 := Lib.hid hSC2; clear hs3 hr3 hb2 hb3 Z2 hSC2) | (refine wpList_store rfl _ _ _ rfl ⟨w2.heap.size, 0, none⟩ _ w3 rfl rfl HST.out ?_) | (go_at_call 48; (with_reducible refine (SA2.out _).mono ?_); rintro e w4 ⟨rfl, hb4⟩; have hq4 := bel2 ((Below.refl _ w3).alloc (Nat.le_refl _) _) hb4; have HT4 := Lib.hid (HT3.out.below hq4); obtain ⟨w5, hs5, hr5, hb5⟩ := row_new ((KL.out w3).below hb4) HSC2.out; have HST5 := Lib.hid hs5; have HR5 := Lib.hid hr5; have HT5 := Lib.hid (HT4.out.below hb5); have HL5 := Lib.hid (hr5.load HSC2.out); clear hs5 hr5 hb4 hq4 hb5) | (refine wpList_store rfl _ _ _ rfl ⟨w4.heap.size, 0, none⟩ _ w5 rfl rfl HST5.out ?_) | (refine wpList_load rfl 97 _ rfl ⟨w4.heap.size, 0, none⟩ _ rfl HL5.out ?_) | (go_at_call 101; (refine (RJ2.out _ HR5.out.1 (HR.out.below HT5.out.base)).mono ?_); rintro e w6 ⟨u6, rfl, ho6⟩; obtain ⟨p6, cap6, rfl⟩ := ho6.form2; have HT6 := Lib.hid (HT5.out.below ho6.2); clear ho6))
    go_loopw [23] (fun i wr => ∃ k : Nat, k ≤ os.length ∧ i = .int .i64 (k : Int) ∧ Tk w w2.heap.size wr ((os.take k).foldl (Pol.takes nm) Pol.zero)) (fun i _ => os.length - (intOf i).toNat)
    case atStart => exact ⟨0, Nat.zero_le _, rfl, HT6.out⟩
    case round =>
      clear HT6 HT5 HT4 HT3 HST HST5 HR5 HL5 SA SA2 RJ RJ2 KL Z1 L1 H1
      obtain ⟨k, hk, rfl, hs⟩ := hrel
      have HS := Lib.hid hs
      clear hs
      by_cases hlt : k < os.length
      · have hi := HI.out k hlt
        obtain ⟨c0, c1⟩ := HC.out k hlt
        rw [← HS.out.base.cell (block_lt_of_cell c0)] at c0
        rw [← HS.out.base.cell (block_lt_of_cell c1)] at c1
        have hdk := HD.out os[k] (List.getElem_mem hlt)
        have hrt := bad_right l2 os k (HN.out k hlt)
        rw [Pol.g_eq os k hlt, right_fit] at hrt
        simp only [Bool.and_eq_true, decide_eq_true_eq] at hrt
        obtain ⟨hat, _⟩ := hrt
        have HJ2 : Hid ((os.take (k + 1)).foldl (Pol.takes nm) Pol.zero = takeAt ((os.take k).foldl (Pol.takes nm) Pol.zero) (at' os[k].1) os[k].2) := Lib.hid (by
          rw [List.take_succ_eq_append_getElem hlt, List.foldl_append]
          exact takes_at _ _ hat)
        generalize (os.take k).foldl (Pol.takes nm) Pol.zero = m at *
        generalize os[k] = o at *
        obtain ⟨z, d⟩ := o
        simp only at hdk hat HJ2
        obtain ⟨o8, ho8⟩ : ∃ o8, o8 = off + 2 * k := ⟨_, rfl⟩
        rw [← ho8] at hi c0 c1
        clear ho8
        have HA := Lib.hid (HS.out.below ((Below.refl _ wr).alloc (Nat.le_refl _) (.cells #[.int .i64 z, .string ⟨d.toArray⟩] 82)))
        have HO := Lib.hid (Arr.new wr [.int .i64 z, .string ⟨d.toArray⟩] 82)
        obtain ⟨T, R, z', hp⟩ := plc (B := w.heap.size + 1) hat HSC.out
        have RU : Hid (∀ W, Calls Tryz.prog 104 #[.agg SC, .int .i64 z] W fun e w' => e = .returned (.tuple #[.iface T R, .bool true]) ∧ Below W.heap.size W w') := Lib.hid fun W => by
          have h := rule_any (w.heap.size + 1) z W
          rw [← HSC.out, show found (w.heap.size + 1) (at' z) = .tuple #[.iface (tys (at' z)) (rcv (w.heap.size + 1) (at' z)), .bool true] from if_pos hat, ← hp.2.2.1, ← hp.2.2.2.1] at h
          exact h
        obtain ⟨g4, v4, hm4, hc4⟩ := m_take (w.heap.size + 1) (at' z) hat
        rw [← hp.2.2.1, ← hp.2.2.2.1] at hm4
        obtain ⟨m4, m4'⟩ := hm4
        have C4 := Lib.hid fun W h => hc4 W m d h (by omega)
        clear hc4 hat hp
        go_wp2_with (first | (refine wpList_load rfl 97 _ rfl ⟨w2.heap.size, 0, none⟩ _ rfl (HA.out.row.load HSC.out) ?_) | (go_at_call 104; (refine (RU.out _).mono ?_); rintro e w7 ⟨rfl, hb7⟩; have HA7 := Lib.hid (HA.out.below hb7); have HO7 := Lib.hid (HO.out.below hb7); have d1 := HO7.out.cell 1 _ rfl; have hz7 := HO7.out.lt; clear hb7) | (go_at_fn g4; (refine (C4.out _ HA7.out.row.1).mono ?_); rintro e w9 ⟨rfl, hl9, hg9⟩; have HR9 := Lib.hid (HA7.out.turn hl9 hg9); clear hl9 hg9))
        go_roundw
        case rel => exact ⟨k + 1, by omega, by go_num, by rw [HJ2.out]; exact HR9.out⟩
        case measure => simp [intOf]; omega
      · obtain rfl : k = os.length := by omega
        rw [List.take_length] at HS
        have HJ2 : Hid (J = if Pol.may (os.foldl (Pol.takes nm) Pol.zero) then (os.foldl (Pol.takes nm) Pol.zero, 0) else (Pol.zero, 1400)) := Lib.hid HJ.out
        clear HJ
        generalize os.foldl (Pol.takes nm) Pol.zero = m at *
        have SM := Lib.hid fun W h => side_may (w.heap.size + 1) m W h
        rw [← HSC.out] at SM
        cases hm : Pol.may m
        · rw [hm] at SM HJ2
          have HE : Hid (J = (Pol.zero, 1400)) := Lib.hid HJ2.out
          clear hm HJ2
          go_wp2_with (first | (refine wpList_load rfl 97 _ rfl ⟨w2.heap.size, 0, none⟩ _ rfl (HS.out.row.load HSC.out) ?_) | (go_at_call 49; (refine (SM.out _ HS.out.row.1).mono ?_); rintro e w7 ⟨rfl, hb7⟩; have HT6 := Lib.hid (HS.out.below hb7); clear hb7) | (refine Pl.step_keep rfl _ _ rfl w.heap.size Pol.zero Pol.zero rfl rfl HT6.out.res ?_; intro w8 n8 g8; have HZ := Lib.hid n8; have HB := Lib.hid (below_of_grown HT6.out.base g8 (Nat.le_refl _) rfl); clear n8 g8))
          have m0 := HZ.out.cell 0 _ rfl
          have m1 := HZ.out.cell 1 _ rfl
          have m2 := HZ.out.cell 2 _ rfl
          have m3 := HZ.out.cell 3 _ rfl
          have m4 := HZ.out.cell 4 _ rfl
          have m5 := HZ.out.cell 5 _ rfl
          refine bodyPost_ret (v := .tuple #[Pl.lv Pol.zero, .int .i64 1400]) (by simp [results, Tryz.results96, go_sem, m0, m1, m2, m3, m4, m5, Pl.lv, Pol.zero]) rfl ⟨by rw [HE.out], HB.out⟩
        · rw [hm] at SM HJ2
          have HE : Hid (J = (m, 0)) := Lib.hid HJ2.out
          clear hm HJ2
          go_wp2_with (first | (refine wpList_load rfl 97 _ rfl ⟨w2.heap.size, 0, none⟩ _ rfl (HS.out.row.load HSC.out) ?_) | (go_at_call 49; (refine (SM.out _ HS.out.row.1).mono ?_); rintro e w7 ⟨rfl, hb7⟩; have HT6 := Lib.hid (HS.out.below hb7); clear hb7) | (refine Pl.step_link rfl _ rfl (w.heap.size + 1) m rfl HT6.out.row.1 ?_) | (refine Pl.step_keep rfl _ _ rfl w.heap.size Pol.zero m rfl rfl HT6.out.res ?_; intro w8 n8 g8; have HZ := Lib.hid n8; have HB := Lib.hid (below_of_grown HT6.out.base g8 (Nat.le_refl _) rfl); clear n8 g8))
          have m0 := HZ.out.cell 0 _ rfl
          have m1 := HZ.out.cell 1 _ rfl
          have m2 := HZ.out.cell 2 _ rfl
          have m3 := HZ.out.cell 3 _ rfl
          have m4 := HZ.out.cell 4 _ rfl
          have m5 := HZ.out.cell 5 _ rfl
          refine bodyPost_ret (v := .tuple #[Pl.lv m, .int .i64 0]) (by simp [results, Tryz.results96, go_sem, m0, m1, m2, m3, m4, m5, Pl.lv]) rfl ⟨by rw [HE.out], HB.out⟩
end Go.Proofs.YteabkmelnoefiaaGreatDoor.Pr
