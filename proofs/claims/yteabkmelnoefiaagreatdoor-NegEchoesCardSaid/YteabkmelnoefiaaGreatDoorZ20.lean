/-
  What the program's links learn. (gen_prd.py)
-/
import Derived.Test.YteabkmelnoefiaaGreatDoorZ18
import Derived.Test.YteabkmelnoefiaaGreatDoorZ03
namespace Go.Proofs.YteabkmelnoefiaaGreatDoor.Pr
open Go.RowKit
set_option maxRecDepth 100000
theorem lesson_miss (code : Int) (l : Pol.Lk) (o : Opt.Op) (h : ¬ at' o.1 < 6) : Pol.lesson nm code l o = l := by
  unfold Pol.lesson
  rw [right_fit, decide_eq_false h]
  rfl
theorem lesson_unfit (code : Int) (l : Pol.Lk) (o : Opt.Op) (h : fitAt (at' o.1) o.2 = false) : Pol.lesson nm code l o = l := by
  unfold Pol.lesson
  rw [right_fit, h, Bool.and_false]
  rfl
theorem lesson_drop (l : Pol.Lk) (o : Opt.Op) (hk : at' o.1 < 6) (h : fitAt (at' o.1) o.2 = true) : Pol.lesson nm 4 l o = dropAt l (at' o.1) := by
  unfold Pol.lesson
  rw [right_fit, h, decide_eq_true hk]
  have e := kind_at o.1 hk
  generalize at' o.1 = k at *
  rw [← e]
  match k, hk with
  | 0, _ => rfl
  | 1, _ => rfl
  | 2, _ => rfl
  | 3, _ => rfl
  | 4, _ => rfl
  | 5, _ => rfl
theorem lesson_take (l : Pol.Lk) (o : Opt.Op) (hk : at' o.1 < 6) (h : fitAt (at' o.1) o.2 = true) : Pol.lesson nm 3 l o = if asksAt l (at' o.1) && goodAt (at' o.1) o.2 then takeAt l (at' o.1) o.2 else l := by
  unfold Pol.lesson
  rw [right_fit, h, decide_eq_true hk]
  have e := kind_at o.1 hk
  obtain ⟨z, d⟩ := o
  simp only at *
  generalize at' z = k at *
  subst e
  obtain ⟨mru, magic, mrru, short, disc, num⟩ := l
  match k, hk with
  | 0, _ => simp [Pol.taught, kind, asksAt, goodAt, takeAt]
  | 1, _ => simp [Pol.taught, kind, asksAt, goodAt, takeAt]
  | 2, _ => simp [Pol.taught, kind, asksAt, goodAt, takeAt]
  | 3, _ => cases short <;> simp [Pol.taught, kind, asksAt, goodAt, takeAt]
  | 4, _ => simp [Pol.taught, kind, asksAt, goodAt, takeAt]
  | 5, _ => simp [Pol.taught, kind, asksAt, goodAt, takeAt]
/-- What the walk of 'Learn' holds: the link in its box, the result's box, the row of rules. -/
structure Lr (w : World) (S : Nat) (W : World) (l : Pol.Lk) : Prop where
  base : Below w.heap.size w W
  row : Row w.heap.size S W l
  res : Pl.Lnk (w.heap.size + 1) W Pol.zero
  far : w.heap.size + 1 < S
theorem Lr.below {w W W' : World} {S : Nat} {l : Pol.Lk} (h : Lr w S W l) (k : Below W.heap.size W W') : Lr w S W' l := ⟨bel2 h.base k, h.row.below k, h.res.below k, h.far⟩
theorem Lr.turn {w W W' : World} {S : Nat} {l l' : Pol.Lk} (h : Lr w S W l) (k : Pl.Lnk w.heap.size W' l') (g : W.grownBy W' (some w.heap.size)) : Lr w S W' l' :=
  ⟨below_of_grown h.base g (Nat.le_refl _) rfl, ⟨k, h.row.2.grown g (fun e => by have := h.far; simp at e; omega)⟩, h.res.grown g (fun e => by simp at e), h.far⟩
set_option maxHeartbeats 6400000 in
set_option maxRecDepth 100000 in
theorem learn_any (l : Pol.Lk) (code : Int) (v : Value) (os : List Opt.Op) (w : World) (hr : ReadsO w v os) (hl : os.length * 24 ≤ 140737488351232) (hd : ∀ o ∈ os, o.2.length ≤ 140737488351232) :
    Calls Tryz.prog 92 #[.agg (Pl.lcs l).toArray, .int .i64 code, v] w fun e w' => e = .returned (.tuple #[Pl.lv (Pol.learn nm l code os).1, .int .i64 (Pol.learn nm l code os).2]) ∧ Below w.heap.size w w' := by
  have HR := Lib.hid hr
  obtain ⟨q, cap, b, off, rfl, _, _, hi, hc⟩ := hr.at
  have HI := Lib.hid hi
  have HC := Lib.hid hc
  have HD := Lib.hid hd
  obtain ⟨w1, hw1⟩ : ∃ w1, w1 = (w.alloc (.cells (Pl.lcs l).toArray 23)).alloc (.cells #[.int .i64 0, .int .i64 0, .int .i64 0, .bool false, .string ⟨#[]⟩, .int .i64 0] 23) := ⟨_, rfl⟩
  have H1 : Hid (Below w.heap.size w w1) := Lib.hid (hw1 ▸ ((Below.refl w.heap.size w).alloc (Nat.le_refl _) _).alloc (by simp) _)
  have L1 : Hid (Pl.Lnk w.heap.size w1 l) := Lib.hid (hw1 ▸ (Pl.Lnk.new w l).below ((Below.refl _ _).alloc (Nat.le_refl _) _))
  have Z1 : Hid (Pl.Lnk (w.heap.size + 1) w1 Pol.zero) := Lib.hid (hw1 ▸ Pl.Lnk.new_at (w.alloc (.cells (Pl.lcs l).toArray 23)) Pol.zero _ (by simp))
  obtain ⟨SC, hSC⟩ : ∃ SC, SC = (scs w.heap.size).toArray := ⟨_, rfl⟩
  have SA := Lib.hid fun W => side_any w.heap.size W
  have SM := Lib.hid fun W h => side_may w.heap.size l W h
  rw [← hSC] at SA SM
  have HSC := Lib.hid hSC
  have HJ : Hid (Pol.learn nm l code os = if Pol.may l && (code == 3 || code == 4) then (Pol.learns nm code l os, 0) else (Pol.zero, 1400)) := Lib.hid rfl
  obtain ⟨J, hJ⟩ : ∃ J, J = Pol.learn nm l code os := ⟨_, rfl⟩
  rw [← hJ] at HJ ⊢
  clear hJ hr hi hc hd hSC
  by_cases hgo : Pol.may l = true ∧ (code = 3 ∨ code = 4)
  · obtain ⟨hm, hc2⟩ := hgo
    have HE : J = (Pol.learns nm code l os, 0) := by
      rw [HJ.out, hm]
      rcases hc2 with rfl | rfl <;> rfl
    subst HE
    have HD2 : Hid (∀ n, (Pol.learns nm code l (os.take n)).disc.length ≤ 20) := Lib.hid fun n => ((Pol.may_iff _).1 (Pol.may_learns code hc2 (os.take n) l hm)).2.2.2.2.1
    rw [hm] at SM
    clear HJ hm
    rcases hc2 with rfl | rfl
    · go_enter Tryz.func92, Tryz.ntmps92
      go_wp2_with fail
      rw [← hw1]
      clear hw1
      go_wp2_with (first | (go_at_call 48; (refine (SA.out _).mono ?_); rintro e w2 ⟨rfl, hb2⟩; have Z2 := Lib.hid (Z1.out.below hb2); obtain ⟨w3, hs3, hr3, hb3⟩ := row_new (L1.out.below hb2) HSC.out; have HST := Lib.hid hs3; have HR3 : Hid (Lr w w2.heap.size w3 l) := Lib.hid ⟨bel2 (bel2 H1.out hb2) hb3, hr3, Z2.out.below hb3, Z2.out.lt⟩; have HL3 := Lib.hid (hr3.load HSC.out); clear hs3 hr3 hb2 hb3 Z2) | (refine wpList_store rfl _ _ _ rfl ⟨w2.heap.size, 0, none⟩ _ w3 rfl rfl HST.out ?_) | (refine wpList_load rfl 97 _ rfl ⟨w2.heap.size, 0, none⟩ _ rfl HL3.out ?_) | (go_at_call 49; (refine (SM.out _ HR3.out.row.1).mono ?_); rintro e w4 ⟨rfl, hb4⟩; have HR4 := Lib.hid (HR3.out.below hb4); clear hb4))
      go_loopw [28] (fun i wr => ∃ k : Nat, k ≤ os.length ∧ i = .int .i64 (k : Int) ∧ Lr w w2.heap.size wr (Pol.learns nm 3 l (os.take k))) (fun i _ => os.length - (intOf i).toNat)
      case atStart => exact ⟨0, Nat.zero_le _, rfl, HR4.out⟩
      case round =>
        obtain ⟨k, hk, rfl, hs⟩ := hrel
        have HS := Lib.hid hs
        clear hs
        by_cases hlt : k < os.length
        · have hi := HI.out k hlt
          obtain ⟨c0, c1⟩ := HC.out k hlt
          rw [← HS.out.base.cell (block_lt_of_cell c0)] at c0
          rw [← HS.out.base.cell (block_lt_of_cell c1)] at c1
          have hdk := HD.out os[k] (List.getElem_mem hlt)
          have HJ : Hid (Pol.learns nm 3 l (os.take (k + 1)) = Pol.lesson nm 3 (Pol.learns nm 3 l (os.take k)) os[k]) := Lib.hid (by
            rw [Pol.learns_snoc nm 3 l os k hlt, Pol.g_eq os k hlt])
          generalize Pol.learns nm 3 l (os.take k) = m at *
          generalize os[k] = o at *
          obtain ⟨z, d⟩ := o
          simp only at hdk
          obtain ⟨o8, ho8⟩ : ∃ o8, o8 = off + 2 * k := ⟨_, rfl⟩
          rw [← ho8] at hi c0 c1
          clear ho8
          have HA := Lib.hid (HS.out.below ((Below.refl _ wr).alloc (Nat.le_refl _) (.cells #[.int .i64 z, .string ⟨d.toArray⟩] 82)))
          have HO := Lib.hid (Arr.new wr [.int .i64 z, .string ⟨d.toArray⟩] 82)
          by_cases hat : at' z < 6
          · obtain ⟨T, R, z', hp⟩ := plc (B := w.heap.size) hat HSC.out
            have RU : Hid (∀ W, Calls Tryz.prog 104 #[.agg SC, .int .i64 z] W fun e w' => e = .returned (.tuple #[.iface T R, .bool true]) ∧ Below W.heap.size W w') := Lib.hid fun W => by
              have h := rule_any w.heap.size z W
              rw [← HSC.out, show found w.heap.size (at' z) = .tuple #[.iface (tys (at' z)) (rcv w.heap.size (at' z)), .bool true] from if_pos hat, ← hp.2.2.1, ← hp.2.2.2.1] at h
              exact h
            obtain ⟨g1, v1, hm1, hc1⟩ := m_fits w.heap.size (at' z) hat
            rw [← hp.2.2.1, ← hp.2.2.2.1] at hm1
            obtain ⟨m1, m1'⟩ := hm1
            have C1 := Lib.hid fun W => hc1 W d
            clear hc1
            cases hf : fitAt (at' z) d
            · rw [hf] at C1
              have HE := Lib.hid (lesson_unfit 3 m (z, d) hf)
              clear hf hat hp
              go_wp2_with (first | (refine wpList_load rfl 97 _ rfl ⟨w2.heap.size, 0, none⟩ _ rfl (HA.out.row.load HSC.out) ?_) | (go_at_call 104; (refine (RU.out _).mono ?_); rintro e w5 ⟨rfl, hb5⟩; have HR5 := Lib.hid (HA.out.below hb5); have HO5 := Lib.hid (HO.out.below hb5); have d1 := HO5.out.cell 1 _ rfl; have hz5 := HO5.out.lt; clear hb5) | (go_at_fn g1; (refine (C1.out _).mono ?_); rintro e w6 ⟨rfl, hb6⟩; have HR6 := Lib.hid (HR5.out.below hb6); have HO6 := Lib.hid (HO5.out.below hb6); have d16 := HO6.out.cell 1 _ rfl; have hz6 := HO6.out.lt; clear hb6))
              go_roundw
              case rel => exact ⟨k + 1, by omega, by go_num, by rw [HJ.out, HE.out]; exact HR6.out⟩
              case measure => simp [intOf]; omega
            · rw [hf] at C1
              have HE := Lib.hid (lesson_take m (z, d) hat hf)
              obtain ⟨g2, v2, hm2, hc2⟩ := m_asks w.heap.size (at' z) hat
              rw [← hp.2.2.1, ← hp.2.2.2.1] at hm2
              obtain ⟨m2, m2'⟩ := hm2
              have C2 := Lib.hid fun W h => hc2 W m h
              obtain ⟨g3, v3, hm3, hc3⟩ := m_good w.heap.size (at' z) hat
              rw [← hp.2.2.1, ← hp.2.2.2.1] at hm3
              obtain ⟨m3, m3'⟩ := hm3
              have C3 := Lib.hid fun W => hc3 W d (by omega)
              obtain ⟨g4, v4, hm4, hc4⟩ := m_take w.heap.size (at' z) hat
              rw [← hp.2.2.1, ← hp.2.2.2.1] at hm4
              obtain ⟨m4, m4'⟩ := hm4
              have C4 := Lib.hid fun W h => hc4 W m d h (by omega)
              simp only at HE
              clear hc2 hc3 hc4 hf hat hp
              cases ha : asksAt m (at' z)
              · rw [ha] at C2 HE
                have HE2 := Lib.hid HE.out
                clear ha C3 C4 m3 m3' m4 m4' HE
                go_wp2_with (first | (refine wpList_load rfl 97 _ rfl ⟨w2.heap.size, 0, none⟩ _ rfl (HA.out.row.load HSC.out) ?_) | (go_at_call 104; (refine (RU.out _).mono ?_); rintro e w5 ⟨rfl, hb5⟩; have HR5 := Lib.hid (HA.out.below hb5); have HO5 := Lib.hid (HO.out.below hb5); have d1 := HO5.out.cell 1 _ rfl; have hz5 := HO5.out.lt; clear hb5) | (go_at_fn g1; (refine (C1.out _).mono ?_); rintro e w6 ⟨rfl, hb6⟩; have HR6 := Lib.hid (HR5.out.below hb6); have HO6 := Lib.hid (HO5.out.below hb6); have d16 := HO6.out.cell 1 _ rfl; have hz6 := HO6.out.lt; clear hb6) | (go_at_fn g2; (refine (C2.out _ HR6.out.row.1).mono ?_); rintro e w7 ⟨rfl, hb7⟩; have HR7 := Lib.hid (HR6.out.below hb7); have HO7 := Lib.hid (HO6.out.below hb7); have d17 := HO7.out.cell 1 _ rfl; have hz7 := HO7.out.lt; clear hb7))
                go_roundw
                case rel => exact ⟨k + 1, by omega, by go_num, by rw [HJ.out, HE2.out]; exact HR7.out⟩
                case measure => simp [intOf]; omega
              · rw [ha] at C2 HE
                cases hg : goodAt (at' z) d
                · rw [hg] at C3 HE
                  have HE2 := Lib.hid HE.out
                  clear ha hg C4 m4 m4' HE
                  go_wp2_with (first | (refine wpList_load rfl 97 _ rfl ⟨w2.heap.size, 0, none⟩ _ rfl (HA.out.row.load HSC.out) ?_) | (go_at_call 104; (refine (RU.out _).mono ?_); rintro e w5 ⟨rfl, hb5⟩; have HR5 := Lib.hid (HA.out.below hb5); have HO5 := Lib.hid (HO.out.below hb5); have d1 := HO5.out.cell 1 _ rfl; have hz5 := HO5.out.lt; clear hb5) | (go_at_fn g1; (refine (C1.out _).mono ?_); rintro e w6 ⟨rfl, hb6⟩; have HR6 := Lib.hid (HR5.out.below hb6); have HO6 := Lib.hid (HO5.out.below hb6); have d16 := HO6.out.cell 1 _ rfl; have hz6 := HO6.out.lt; clear hb6) | (go_at_fn g2; (refine (C2.out _ HR6.out.row.1).mono ?_); rintro e w7 ⟨rfl, hb7⟩; have HR7 := Lib.hid (HR6.out.below hb7); have HO7 := Lib.hid (HO6.out.below hb7); have d17 := HO7.out.cell 1 _ rfl; have hz7 := HO7.out.lt; clear hb7) | (go_at_fn g3; (refine (C3.out _).mono ?_); rintro e w8 ⟨rfl, hb8⟩; have HR8 := Lib.hid (HR7.out.below hb8); have HO8 := Lib.hid (HO7.out.below hb8); have d18 := HO8.out.cell 1 _ rfl; have hz8 := HO8.out.lt; clear hb8))
                  go_roundw
                  case rel => exact ⟨k + 1, by omega, by go_num, by rw [HJ.out, HE2.out]; exact HR8.out⟩
                  case measure => simp [intOf]; omega
                · rw [hg] at C3 HE
                  have HE2 := Lib.hid HE.out
                  clear ha hg HE
                  go_wp2_with (first | (refine wpList_load rfl 97 _ rfl ⟨w2.heap.size, 0, none⟩ _ rfl (HA.out.row.load HSC.out) ?_) | (go_at_call 104; (refine (RU.out _).mono ?_); rintro e w5 ⟨rfl, hb5⟩; have HR5 := Lib.hid (HA.out.below hb5); have HO5 := Lib.hid (HO.out.below hb5); have d1 := HO5.out.cell 1 _ rfl; have hz5 := HO5.out.lt; clear hb5) | (go_at_fn g1; (refine (C1.out _).mono ?_); rintro e w6 ⟨rfl, hb6⟩; have HR6 := Lib.hid (HR5.out.below hb6); have HO6 := Lib.hid (HO5.out.below hb6); have d16 := HO6.out.cell 1 _ rfl; have hz6 := HO6.out.lt; clear hb6) | (go_at_fn g2; (refine (C2.out _ HR6.out.row.1).mono ?_); rintro e w7 ⟨rfl, hb7⟩; have HR7 := Lib.hid (HR6.out.below hb7); have HO7 := Lib.hid (HO6.out.below hb7); have d17 := HO7.out.cell 1 _ rfl; have hz7 := HO7.out.lt; clear hb7) | (go_at_fn g3; (refine (C3.out _).mono ?_); rintro e w8 ⟨rfl, hb8⟩; have HR8 := Lib.hid (HR7.out.below hb8); have HO8 := Lib.hid (HO7.out.below hb8); have d18 := HO8.out.cell 1 _ rfl; have hz8 := HO8.out.lt; clear hb8) | (go_at_fn g4; (refine (C4.out _ HR8.out.row.1).mono ?_); rintro e w9 ⟨rfl, hl9, hg9⟩; have HR9 := Lib.hid (HR8.out.turn hl9 hg9); clear hl9 hg9))
                  go_roundw
                  case rel => exact ⟨k + 1, by omega, by go_num, by rw [HJ.out, HE2.out]; exact HR9.out⟩
                  case measure => simp [intOf]; omega
          · have RU : Hid (∀ W, Calls Tryz.prog 104 #[.agg SC, .int .i64 z] W fun e w' => e = .returned (.tuple #[.nilIface, .bool false]) ∧ Below W.heap.size W w') := Lib.hid fun W => by
              have h := rule_miss w.heap.size z hat W
              rwa [← HSC.out] at h
            have HE := Lib.hid (lesson_miss 3 m (z, d) hat)
            clear hat
            go_wp2_with (first | (refine wpList_load rfl 97 _ rfl ⟨w2.heap.size, 0, none⟩ _ rfl (HA.out.row.load HSC.out) ?_) | (go_at_call 104; (refine (RU.out _).mono ?_); rintro e w5 ⟨rfl, hb5⟩; have HR5 := Lib.hid (HA.out.below hb5); have HO5 := Lib.hid (HO.out.below hb5); have d1 := HO5.out.cell 1 _ rfl; have hz5 := HO5.out.lt; clear hb5))
            go_roundw
            case rel => exact ⟨k + 1, by omega, by go_num, by rw [HJ.out, HE.out]; exact HR5.out⟩
            case measure => simp [intOf]; omega
        · obtain rfl : k = os.length := by omega
          have hdl := HD2.out os.length
          rw [List.take_length] at HS hdl
          obtain ⟨m, hM⟩ : ∃ m, m = Pol.learns nm 3 l os := ⟨_, rfl⟩
          rw [← hM] at HS hdl
          have HM := Lib.hid hM
          clear hM
          have CA := Lib.hid fun W => clone_any ⟨m.disc.toArray⟩ W (by rw [sz]; omega)
          have k4 := HS.out.row.1.cell 4 _ rfl
          have hz4 := HS.out.row.1.lt
          go_wp2_with (first | (go_at_call 50; (refine (CA.out _).mono ?_); rintro e w5 ⟨rfl, hb5⟩; have HR5 := Lib.hid (HS.out.below hb5); have k5 := HR5.out.row.1.cell 4 _ rfl; have f5 := HR5.out.row.1.frozen 4; have hz5 := HR5.out.row.1.lt; have HL6 : Hid (Pl.Lnk w.heap.size (w5.setCell ⟨w.heap.size, 4, none⟩ (.string ⟨m.disc.toArray⟩)) m) := Lib.hid (Arr.set HR5.out.row.1 4 (.string ⟨m.disc.toArray⟩)); have HG6 := Lib.hid (wrote_set (B := w.heap.size) (o := 4) (u := .string ⟨m.disc.toArray⟩) (Below.refl _ w5)).2; have HR6 := Lib.hid (HR5.out.turn HL6.out HG6); clear hb5) | (refine Pl.step_link rfl _ rfl w.heap.size m rfl HL6.out ?_) | (refine Pl.step_keep rfl _ _ rfl (w.heap.size + 1) Pol.zero m rfl rfl HR6.out.res ?_; intro w7 n7 g7; have HZ7 := Lib.hid n7; have HB7 := Lib.hid (below_of_grown HR6.out.base g7 (Nat.le_succ _) rfl); clear n7 g7))
          have m0 := HZ7.out.cell 0 _ rfl
          have m1 := HZ7.out.cell 1 _ rfl
          have m2 := HZ7.out.cell 2 _ rfl
          have m3 := HZ7.out.cell 3 _ rfl
          have m4 := HZ7.out.cell 4 _ rfl
          have m5 := HZ7.out.cell 5 _ rfl
          refine bodyPost_ret (v := .tuple #[Pl.lv m, .int .i64 0]) (by simp [results, Tryz.results92, go_sem, m0, m1, m2, m3, m4, m5, Pl.lv]) rfl ⟨by rw [HM.out], HB7.out⟩
    · go_enter Tryz.func92, Tryz.ntmps92
      go_wp2_with fail
      rw [← hw1]
      clear hw1
      go_wp2_with (first | (go_at_call 48; (refine (SA.out _).mono ?_); rintro e w2 ⟨rfl, hb2⟩; have Z2 := Lib.hid (Z1.out.below hb2); obtain ⟨w3, hs3, hr3, hb3⟩ := row_new (L1.out.below hb2) HSC.out; have HST := Lib.hid hs3; have HR3 : Hid (Lr w w2.heap.size w3 l) := Lib.hid ⟨bel2 (bel2 H1.out hb2) hb3, hr3, Z2.out.below hb3, Z2.out.lt⟩; have HL3 := Lib.hid (hr3.load HSC.out); clear hs3 hr3 hb2 hb3 Z2) | (refine wpList_store rfl _ _ _ rfl ⟨w2.heap.size, 0, none⟩ _ w3 rfl rfl HST.out ?_) | (refine wpList_load rfl 97 _ rfl ⟨w2.heap.size, 0, none⟩ _ rfl HL3.out ?_) | (go_at_call 49; (refine (SM.out _ HR3.out.row.1).mono ?_); rintro e w4 ⟨rfl, hb4⟩; have HR4 := Lib.hid (HR3.out.below hb4); clear hb4))
      go_loopw [28] (fun i wr => ∃ k : Nat, k ≤ os.length ∧ i = .int .i64 (k : Int) ∧ Lr w w2.heap.size wr (Pol.learns nm 4 l (os.take k))) (fun i _ => os.length - (intOf i).toNat)
      case atStart => exact ⟨0, Nat.zero_le _, rfl, HR4.out⟩
      case round =>
        obtain ⟨k, hk, rfl, hs⟩ := hrel
        have HS := Lib.hid hs
        clear hs
        by_cases hlt : k < os.length
        · have hi := HI.out k hlt
          obtain ⟨c0, c1⟩ := HC.out k hlt
          rw [← HS.out.base.cell (block_lt_of_cell c0)] at c0
          rw [← HS.out.base.cell (block_lt_of_cell c1)] at c1
          have hdk := HD.out os[k] (List.getElem_mem hlt)
          have HJ : Hid (Pol.learns nm 4 l (os.take (k + 1)) = Pol.lesson nm 4 (Pol.learns nm 4 l (os.take k)) os[k]) := Lib.hid (by
            rw [Pol.learns_snoc nm 4 l os k hlt, Pol.g_eq os k hlt])
          generalize Pol.learns nm 4 l (os.take k) = m at *
          generalize os[k] = o at *
          obtain ⟨z, d⟩ := o
          simp only at hdk
          obtain ⟨o8, ho8⟩ : ∃ o8, o8 = off + 2 * k := ⟨_, rfl⟩
          rw [← ho8] at hi c0 c1
          clear ho8
          have HA := Lib.hid (HS.out.below ((Below.refl _ wr).alloc (Nat.le_refl _) (.cells #[.int .i64 z, .string ⟨d.toArray⟩] 82)))
          have HO := Lib.hid (Arr.new wr [.int .i64 z, .string ⟨d.toArray⟩] 82)
          by_cases hat : at' z < 6
          · obtain ⟨T, R, z', hp⟩ := plc (B := w.heap.size) hat HSC.out
            have RU : Hid (∀ W, Calls Tryz.prog 104 #[.agg SC, .int .i64 z] W fun e w' => e = .returned (.tuple #[.iface T R, .bool true]) ∧ Below W.heap.size W w') := Lib.hid fun W => by
              have h := rule_any w.heap.size z W
              rw [← HSC.out, show found w.heap.size (at' z) = .tuple #[.iface (tys (at' z)) (rcv w.heap.size (at' z)), .bool true] from if_pos hat, ← hp.2.2.1, ← hp.2.2.2.1] at h
              exact h
            obtain ⟨g1, v1, hm1, hc1⟩ := m_fits w.heap.size (at' z) hat
            rw [← hp.2.2.1, ← hp.2.2.2.1] at hm1
            obtain ⟨m1, m1'⟩ := hm1
            have C1 := Lib.hid fun W => hc1 W d
            clear hc1
            cases hf : fitAt (at' z) d
            · rw [hf] at C1
              have HE := Lib.hid (lesson_unfit 4 m (z, d) hf)
              clear hf hat hp
              go_wp2_with (first | (refine wpList_load rfl 97 _ rfl ⟨w2.heap.size, 0, none⟩ _ rfl (HA.out.row.load HSC.out) ?_) | (go_at_call 104; (refine (RU.out _).mono ?_); rintro e w5 ⟨rfl, hb5⟩; have HR5 := Lib.hid (HA.out.below hb5); have HO5 := Lib.hid (HO.out.below hb5); have d1 := HO5.out.cell 1 _ rfl; have hz5 := HO5.out.lt; clear hb5) | (go_at_fn g1; (refine (C1.out _).mono ?_); rintro e w6 ⟨rfl, hb6⟩; have HR6 := Lib.hid (HR5.out.below hb6); have HO6 := Lib.hid (HO5.out.below hb6); have d16 := HO6.out.cell 1 _ rfl; have hz6 := HO6.out.lt; clear hb6))
              go_roundw
              case rel => exact ⟨k + 1, by omega, by go_num, by rw [HJ.out, HE.out]; exact HR6.out⟩
              case measure => simp [intOf]; omega
            · rw [hf] at C1
              have HE := Lib.hid (lesson_drop m (z, d) hat hf)
              obtain ⟨g2, v2, hm2, hc2⟩ := m_drop w.heap.size (at' z) hat
              rw [← hp.2.2.1, ← hp.2.2.2.1] at hm2
              obtain ⟨m2, m2'⟩ := hm2
              have C2 := Lib.hid fun W h => hc2 W m h
              clear hc2 hf hat hp
              go_wp2_with (first | (refine wpList_load rfl 97 _ rfl ⟨w2.heap.size, 0, none⟩ _ rfl (HA.out.row.load HSC.out) ?_) | (go_at_call 104; (refine (RU.out _).mono ?_); rintro e w5 ⟨rfl, hb5⟩; have HR5 := Lib.hid (HA.out.below hb5); have HO5 := Lib.hid (HO.out.below hb5); have d1 := HO5.out.cell 1 _ rfl; have hz5 := HO5.out.lt; clear hb5) | (go_at_fn g1; (refine (C1.out _).mono ?_); rintro e w6 ⟨rfl, hb6⟩; have HR6 := Lib.hid (HR5.out.below hb6); have HO6 := Lib.hid (HO5.out.below hb6); have d16 := HO6.out.cell 1 _ rfl; have hz6 := HO6.out.lt; clear hb6) | (go_at_fn g2; (refine (C2.out _ HR6.out.row.1).mono ?_); rintro e w7 ⟨rfl, hl7, hg7⟩; have HR7 := Lib.hid (HR6.out.turn hl7 hg7); clear hl7 hg7))
              go_roundw
              case rel => exact ⟨k + 1, by omega, by go_num, by rw [HJ.out, HE.out]; exact HR7.out⟩
              case measure => simp [intOf]; omega
          · have RU : Hid (∀ W, Calls Tryz.prog 104 #[.agg SC, .int .i64 z] W fun e w' => e = .returned (.tuple #[.nilIface, .bool false]) ∧ Below W.heap.size W w') := Lib.hid fun W => by
              have h := rule_miss w.heap.size z hat W
              rwa [← HSC.out] at h
            have HE := Lib.hid (lesson_miss 4 m (z, d) hat)
            clear hat
            go_wp2_with (first | (refine wpList_load rfl 97 _ rfl ⟨w2.heap.size, 0, none⟩ _ rfl (HA.out.row.load HSC.out) ?_) | (go_at_call 104; (refine (RU.out _).mono ?_); rintro e w5 ⟨rfl, hb5⟩; have HR5 := Lib.hid (HA.out.below hb5); have HO5 := Lib.hid (HO.out.below hb5); have d1 := HO5.out.cell 1 _ rfl; have hz5 := HO5.out.lt; clear hb5))
            go_roundw
            case rel => exact ⟨k + 1, by omega, by go_num, by rw [HJ.out, HE.out]; exact HR5.out⟩
            case measure => simp [intOf]; omega
        · obtain rfl : k = os.length := by omega
          have hdl := HD2.out os.length
          rw [List.take_length] at HS hdl
          obtain ⟨m, hM⟩ : ∃ m, m = Pol.learns nm 4 l os := ⟨_, rfl⟩
          rw [← hM] at HS hdl
          have HM := Lib.hid hM
          clear hM
          have CA := Lib.hid fun W => clone_any ⟨m.disc.toArray⟩ W (by rw [sz]; omega)
          have k4 := HS.out.row.1.cell 4 _ rfl
          have hz4 := HS.out.row.1.lt
          go_wp2_with (first | (go_at_call 50; (refine (CA.out _).mono ?_); rintro e w5 ⟨rfl, hb5⟩; have HR5 := Lib.hid (HS.out.below hb5); have k5 := HR5.out.row.1.cell 4 _ rfl; have f5 := HR5.out.row.1.frozen 4; have hz5 := HR5.out.row.1.lt; have HL6 : Hid (Pl.Lnk w.heap.size (w5.setCell ⟨w.heap.size, 4, none⟩ (.string ⟨m.disc.toArray⟩)) m) := Lib.hid (Arr.set HR5.out.row.1 4 (.string ⟨m.disc.toArray⟩)); have HG6 := Lib.hid (wrote_set (B := w.heap.size) (o := 4) (u := .string ⟨m.disc.toArray⟩) (Below.refl _ w5)).2; have HR6 := Lib.hid (HR5.out.turn HL6.out HG6); clear hb5) | (refine Pl.step_link rfl _ rfl w.heap.size m rfl HL6.out ?_) | (refine Pl.step_keep rfl _ _ rfl (w.heap.size + 1) Pol.zero m rfl rfl HR6.out.res ?_; intro w7 n7 g7; have HZ7 := Lib.hid n7; have HB7 := Lib.hid (below_of_grown HR6.out.base g7 (Nat.le_succ _) rfl); clear n7 g7))
          have m0 := HZ7.out.cell 0 _ rfl
          have m1 := HZ7.out.cell 1 _ rfl
          have m2 := HZ7.out.cell 2 _ rfl
          have m3 := HZ7.out.cell 3 _ rfl
          have m4 := HZ7.out.cell 4 _ rfl
          have m5 := HZ7.out.cell 5 _ rfl
          refine bodyPost_ret (v := .tuple #[Pl.lv m, .int .i64 0]) (by simp [results, Tryz.results92, go_sem, m0, m1, m2, m3, m4, m5, Pl.lv]) rfl ⟨by rw [HM.out], HB7.out⟩
  · have HE : J = (Pol.zero, 1400) := by
      rw [HJ.out]
      cases hm : Pol.may l
      · rfl
      · have h3 : (code == 3) = false := by rw [beq_eq_false_iff_ne]; exact fun e => hgo ⟨hm, .inl e⟩
        have h4 : (code == 4) = false := by rw [beq_eq_false_iff_ne]; exact fun e => hgo ⟨hm, .inr e⟩
        rw [h3, h4]; rfl
    subst HE
    clear HJ
    cases hm : Pol.may l
    · rw [hm] at SM
      clear hm hgo
      go_enter Tryz.func92, Tryz.ntmps92
      go_wp2_with fail
      rw [← hw1]
      clear hw1
      go_wp2_with (first | (go_at_call 48; (refine (SA.out _).mono ?_); rintro e w2 ⟨rfl, hb2⟩; have Z2 := Lib.hid (Z1.out.below hb2); obtain ⟨w3, hs3, hr3, hb3⟩ := row_new (L1.out.below hb2) HSC.out; have HST := Lib.hid hs3; have HR3 : Hid (Lr w w2.heap.size w3 l) := Lib.hid ⟨bel2 (bel2 H1.out hb2) hb3, hr3, Z2.out.below hb3, Z2.out.lt⟩; have HL3 := Lib.hid (hr3.load HSC.out); clear hs3 hr3 hb2 hb3 Z2) | (refine wpList_store rfl _ _ _ rfl ⟨w2.heap.size, 0, none⟩ _ w3 rfl rfl HST.out ?_) | (refine wpList_load rfl 97 _ rfl ⟨w2.heap.size, 0, none⟩ _ rfl HL3.out ?_) | (go_at_call 49; (refine (SM.out _ HR3.out.row.1).mono ?_); rintro e w4 ⟨rfl, hb4⟩; have HR4 := Lib.hid (HR3.out.below hb4); clear hb4) | (refine Pl.step_keep rfl _ _ rfl (w.heap.size + 1) Pol.zero Pol.zero rfl rfl HR4.out.res ?_; intro w5 n5 g5; have HZ5 := Lib.hid n5; have HB5 := Lib.hid (below_of_grown HR4.out.base g5 (Nat.le_succ _) rfl); clear n5 g5))
      have m0 := HZ5.out.cell 0 _ rfl
      have m1 := HZ5.out.cell 1 _ rfl
      have m2 := HZ5.out.cell 2 _ rfl
      have m3 := HZ5.out.cell 3 _ rfl
      have m4 := HZ5.out.cell 4 _ rfl
      have m5 := HZ5.out.cell 5 _ rfl
      refine bodyPost_ret (v := .tuple #[Pl.lv Pol.zero, .int .i64 1400]) (by simp [results, Tryz.results92, go_sem, m0, m1, m2, m3, m4, m5, Pl.lv, Pol.zero]) rfl ⟨rfl, HB5.out⟩
    · rw [hm] at SM
      have h3 : (code != 3) = true := by rw [bne_iff_ne]; exact fun e => hgo ⟨hm, .inl e⟩
      have h4 : (code != 4) = true := by rw [bne_iff_ne]; exact fun e => hgo ⟨hm, .inr e⟩
      clear hm hgo
      go_enter Tryz.func92, Tryz.ntmps92
      go_wp2_with fail
      rw [← hw1]
      clear hw1
      go_wp2_with (first | (go_at_call 48; (refine (SA.out _).mono ?_); rintro e w2 ⟨rfl, hb2⟩; have Z2 := Lib.hid (Z1.out.below hb2); obtain ⟨w3, hs3, hr3, hb3⟩ := row_new (L1.out.below hb2) HSC.out; have HST := Lib.hid hs3; have HR3 : Hid (Lr w w2.heap.size w3 l) := Lib.hid ⟨bel2 (bel2 H1.out hb2) hb3, hr3, Z2.out.below hb3, Z2.out.lt⟩; have HL3 := Lib.hid (hr3.load HSC.out); clear hs3 hr3 hb2 hb3 Z2) | (refine wpList_store rfl _ _ _ rfl ⟨w2.heap.size, 0, none⟩ _ w3 rfl rfl HST.out ?_) | (refine wpList_load rfl 97 _ rfl ⟨w2.heap.size, 0, none⟩ _ rfl HL3.out ?_) | (go_at_call 49; (refine (SM.out _ HR3.out.row.1).mono ?_); rintro e w4 ⟨rfl, hb4⟩; have HR4 := Lib.hid (HR3.out.below hb4); clear hb4) | (refine Pl.step_keep rfl _ _ rfl (w.heap.size + 1) Pol.zero Pol.zero rfl rfl HR4.out.res ?_; intro w5 n5 g5; have HZ5 := Lib.hid n5; have HB5 := Lib.hid (below_of_grown HR4.out.base g5 (Nat.le_succ _) rfl); clear n5 g5))
      have m0 := HZ5.out.cell 0 _ rfl
      have m1 := HZ5.out.cell 1 _ rfl
      have m2 := HZ5.out.cell 2 _ rfl
      have m3 := HZ5.out.cell 3 _ rfl
      have m4 := HZ5.out.cell 4 _ rfl
      have m5 := HZ5.out.cell 5 _ rfl
      refine bodyPost_ret (v := .tuple #[Pl.lv Pol.zero, .int .i64 1400]) (by simp [results, Tryz.results92, go_sem, m0, m1, m2, m3, m4, m5, Pl.lv, Pol.zero]) rfl ⟨rfl, HB5.out⟩
end Go.Proofs.YteabkmelnoefiaaGreatDoor.Pr
