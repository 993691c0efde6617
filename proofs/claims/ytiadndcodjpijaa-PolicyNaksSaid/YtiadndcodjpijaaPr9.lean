/-
  The program's rejected options: the walk.
-/
import Derived.Test.YtiadndcodjpijaaPr8
namespace Go.Proofs.Ytiadndcodjpijaa.Pr
open Go.RowKit Go.Maps
theorem rejs_snoc (own : Pol.Lk) (os : List Opt.Op) (k : Nat) : Pol.rejs own os (k + 1) = Pol.rejs own os k ++ (if Pol.bad own os k then [Pol.g os k] else []) := rfl
theorem rejs_le (own : Pol.Lk) (os : List Opt.Op) (k : Nat) : (Pol.rejs own os k).length ≤ k := by
  induction k with
  | zero => exact Nat.le_refl 0
  | succ k ih =>
    rw [rejs_snoc, List.length_append]
    split <;> simp <;> omega
set_option maxHeartbeats 3200000 in
set_option maxRecDepth 100000 in
theorem rej_any (B : Nat) (l : Pol.Lk) (w : World) (h : Pl.Lnk B w l) (v : Value) (os : List Opt.Op) (hr : ReadsO w v os) (hl : os.length ≤ 1000000) (hk : ∀ o ∈ os, 0 ≤ o.1 ∧ o.1 ≤ 255) (hd : ∀ o ∈ os, o.2.length ≤ 1000000) :
    Calls Try.prog 19 #[.agg (scs B).toArray, v] w fun e w' => ∃ u, e = .returned u ∧ OwnsO w w' u (Pol.rejs l os os.length) := by
  have HL := Lib.hid h
  obtain ⟨q, cap, b, off, rfl, _, _, hi, hc⟩ := hr.at
  have HI := Lib.hid hi
  have HC := Lib.hid hc
  have HD := Lib.hid hd
  have HK := Lib.hid hk
  have hmm := @run_makeMap Try.prog
  have H0 : Hid (Seen w ((w.alloc (.cells (scs B).toArray 51)).alloc (.map #[] 0)) B (.slice none 0 0) [] 0 []) := Lib.hid (by
    have hs : (w.alloc (.cells (scs B).toArray 51)).heap.size = w.heap.size + 1 := by simp
    have hm := World.ownsMap_made (H := Unit) (w.alloc (.cells (scs B).toArray 51)) Try.prog 3 (plainElem Try.prog 3)
    rw [hs] at hm
    exact ⟨((Below.refl w.heap.size w).alloc (Nat.le_refl _) _).alloc (by simp) _, (side_box B w).below ((Below.refl _ _).alloc (Nat.le_refl _) _), by simp, World.ownsRow_nil _ _ _ _, _, hm, isMap_empty, fun z => rfl⟩)
  clear hi hc hr hd hk h
  obtain ⟨SC, hSC⟩ : ∃ SC, SC = (scs B).toArray := ⟨_, rfl⟩
  rw [← hSC] at H0 ⊢
  have HSC := Lib.hid hSC
  clear hSC
  go_enter Try.func19, Try.ntmps19
  go_wp2_with fail
  go_loopw [5, 14] (fun u i wr => ∃ k : Nat, k ≤ os.length ∧ i = .int .i64 (k : Int) ∧ Seen w wr B u (Pol.rejs l os k) k (os.take k)) (fun _ i _ => os.length - (intOf i).toNat)
  case atStart => exact ⟨0, Nat.zero_le _, rfl, H0.out⟩
  case round =>
    clear H0 hmm
    obtain ⟨k, hk, rfl, hs⟩ := hrel
    have HS := Lib.hid hs
    clear hs
    by_cases hlt : k < os.length
    · have hi := HI.out k hlt
      obtain ⟨c0, c1⟩ := HC.out k hlt
      rw [← HS.out.base.cell (block_lt_of_cell c0)] at c0
      rw [← HS.out.base.cell (block_lt_of_cell c1)] at c1
      have hdk := HD.out os[k] (List.getElem_mem hlt)
      have hkk := HK.out os[k] (List.getElem_mem hlt)
      have HT : Hid (os.take (k + 1) = os.take k ++ [os[k]]) := Lib.hid (List.take_succ_eq_append_getElem hlt)
      have HJ : Hid (Pol.rejs l os (k + 1) = Pol.rejs l os k ++ (if badP l os[k] (os.take k) then [os[k]] else [])) := Lib.hid (by
        rw [rejs_snoc, bad_eq, Pol.g_eq os k hlt])
      have hlk : (os.take k).length = k := List.length_take_of_le hk
      have hle := rejs_le l os k
      generalize Pol.rejs l os k = acc at *
      generalize os[k] = o at *
      obtain ⟨z, d⟩ := o
      generalize os.take k = L at *
      have hcn := cnt_le z L
      obtain ⟨c, hcc⟩ : ∃ c, c = cnt z L := ⟨_, rfl⟩
      rw [← hcc] at hcn
      have HCC := Lib.hid hcc
      have hwz : (Lit.int .i64 z).wf = true := WalkArith.wf_i64 (by simp only at hkk; omega)
      have hwc : (Lit.int .i64 ((c : Int) + 1)).wf = true := WalkArith.wf_i64 (by omega)
      obtain ⟨o8, ho8⟩ : ∃ o8, o8 = off + 2 * k := ⟨_, rfl⟩
      rw [← ho8] at hi c0 c1
      clear ho8
      have HW := Lib.hid hwz
      have HWC := Lib.hid hwc
      have LD : Hid (∀ W, Arr w.heap.size W (scs B) → (loadVar 51 ⟨w.heap.size, 0, none⟩).run Try.prog W = .ok (.agg SC) W) := Lib.hid fun W hA => by rw [HSC.out]; exact side_load hA
      have h' : ∀ W, Below w.heap.size w W → Pl.Lnk B W l := fun W hb => HL.out.below hb
      have CP := Lib.hid fun W => copy_any z d (by simp only at hdk; omega) W
      unfold ov at CP
      have HA2 := Lib.hid (HS.out.below ((Below.refl _ wr).alloc (Nat.le_refl _) (.cells #[.int .i64 z, .string ⟨d.toArray⟩] 36)))
      have HO2 := Lib.hid (Arr.new wr [.int .i64 z, .string ⟨d.toArray⟩] 36)
      have NE : Hid (∀ j, u5.ownBlock = some j → j < wr.heap.size) := Lib.hid fun j hj => (HS.out.own.lt j hj).2
      have LB := Lib.hid h'
      have hk9 : k < 1000000 := by omega
      have hc9 : c ≤ 1000000 := by omega
      have HLE : Hid ((acc.length + 1) * 24 ≤ 140737488355328) := Lib.hid (by omega)
      clear hwz hwc h' hcc hdk hkk hcn hlk hle
      by_cases hat : at' z < 6
      · obtain ⟨T, R, z', hp⟩ := plc (B := B) hat HSC.out
        obtain ⟨g1, v1, hm1, hc1⟩ := m_fits B (at' z) hat
        obtain ⟨g2, v2, hm2, hc2⟩ := m_grants B (at' z) hat
        have RU : Hid (∀ W, Calls Try.prog 20 #[.agg SC, .int .i64 z] W fun e w' => e = .returned (.tuple #[.iface T R, .bool true]) ∧ Below W.heap.size W w') := Lib.hid fun W => by
          have h := rule_any B z W
          rw [← HSC.out, show found B (at' z) = .tuple #[.iface (tys (at' z)) (rcv B (at' z)), .bool true] from if_pos hat, ← hp.2.2.1, ← hp.2.2.2.1] at h
          exact h
        rw [← hp.2.2.1, ← hp.2.2.2.1] at hm1 hm2
        obtain ⟨m1, m1'⟩ := hm1
        obtain ⟨m2, m2'⟩ := hm2
        have HBE : Hid (badP l (z, d) L = (!fitAt (at' z) d || (!grantsAt l (at' z) || decide ((0 : Int) < (c : Int))))) := Lib.hid (by unfold badP; simp only; rw [decide_eq_true hat, ← HCC.out]; rfl)
        have C1 := Lib.hid fun W => hc1 W d
        have C2 := Lib.hid fun W => hc2 W l
        clear hp hc1 hc2 hat
        generalize at' z = kk at *
        cases hf : fitAt kk d
        · rw [hf] at C1
          have HB : Hid (badP l (z, d) L = true) := Lib.hid (by rw [HBE.out, hf]; rfl)
          clear hf HBE C2 m2 m2'
          go_wp2_with (first | (refine wpList_load rfl 51 _ rfl ⟨w.heap.size, 0, none⟩ _ rfl (LD.out _ HA2.out.side) ?_) | (go_at_call 20; (refine (RU.out _).mono ?_); rintro e w2 ⟨rfl, hb2⟩; have HS2 := Lib.hid (HA2.out.below hb2); have HO3 := Lib.hid (HO2.out.below hb2); have d0 := HO3.out.cell 0 _ rfl; have d1 := HO3.out.cell 1 _ rfl; have hz2 := HO3.out.lt; clear hb2) | (go_at_fn g1; (refine (C1.out _).mono ?_); rintro e w3 ⟨rfl, hb3⟩; have HS3 := Lib.hid (HS2.out.below hb3); have HO4 := Lib.hid (HO3.out.below hb3); have d03 := HO4.out.cell 0 _ rfl; have d13 := HO4.out.cell 1 _ rfl; have hz3 := HO4.out.lt; clear hb3) | (go_at_call 27; (refine (CP.out _).mono ?_); rintro e w5 ⟨rfl, hb5⟩; have hq5 := hb5.alloc hb5.size (.cells #[.int .i64 z, .string ⟨d.toArray⟩] 36); have HS5 := Lib.hid (HS3.out.below hq5); have HO5 := Lib.hid (HO4.out.below hq5); have HLC := Lib.hid (lit_one w5 z d); clear hb5 hq5) | (at_builtin; refine wp_catS rfl _ _ rfl (z, d) _ _ HS5.out HLC.out rfl rfl HLE.out ?_; intro v6 w6 hs6 hg6; have HS6 := Lib.hid hs6; have HO6 := Lib.hid (HO5.out.grown hg6 (fun e => Nat.lt_irrefl _ (NE.out _ e.symm))); have d06 := HO6.out.cell 0 _ rfl; have hz6 := HO6.out.lt; clear hs6 hg6) | (at_lookup; refine step_seen rfl _ _ rfl HS6.out z c HCC.out HW.out rfl rfl ?_) | (at_mapUpdate; refine wp_count rfl _ _ _ rfl HS6.out z d c HCC.out HW.out (by omega) rfl rfl rfl HWC.out ?_; intro w7 hs7; have HS7 := Lib.hid hs7; clear hs7))
          go_roundw
          case rel => exact ⟨k + 1, by omega, by go_num, by rw [HT.out, HJ.out, HB.out]; exact HS7.out⟩
          case measure => simp [intOf]; omega
        · rw [hf] at C1
          cases hg : grantsAt l kk
          · have C2 : Hid (∀ W, Pl.Lnk B W l → Calls Try.prog g2 #[v2] W fun e w' => e = .returned (.bool false) ∧ Below W.heap.size W w') := Lib.hid (hg ▸ C2.out)
            have HB : Hid (badP l (z, d) L = true) := Lib.hid (by rw [HBE.out, hf, hg]; rfl)
            clear hf hg HBE
            go_wp2_with (first | (refine wpList_load rfl 51 _ rfl ⟨w.heap.size, 0, none⟩ _ rfl (LD.out _ HA2.out.side) ?_) | (go_at_call 20; (refine (RU.out _).mono ?_); rintro e w2 ⟨rfl, hb2⟩; have HS2 := Lib.hid (HA2.out.below hb2); have HO3 := Lib.hid (HO2.out.below hb2); have d0 := HO3.out.cell 0 _ rfl; have d1 := HO3.out.cell 1 _ rfl; have hz2 := HO3.out.lt; clear hb2) | (go_at_fn g1; (refine (C1.out _).mono ?_); rintro e w3 ⟨rfl, hb3⟩; have HS3 := Lib.hid (HS2.out.below hb3); have HO4 := Lib.hid (HO3.out.below hb3); have d03 := HO4.out.cell 0 _ rfl; have d13 := HO4.out.cell 1 _ rfl; have hz3 := HO4.out.lt; clear hb3) | (go_at_fn g2; (refine (C2.out _ (LB.out _ HS3.out.base)).mono ?_); rintro e w4 ⟨rfl, hb4⟩; have HS4 := Lib.hid (HS3.out.below hb4); have HO5 := Lib.hid (HO4.out.below hb4); have d04 := HO5.out.cell 0 _ rfl; have d14 := HO5.out.cell 1 _ rfl; have hz4 := HO5.out.lt; clear hb4) | (at_lookup; refine step_seen rfl _ _ rfl HS4.out z c HCC.out HW.out rfl rfl ?_) | (go_at_call 27; (refine (CP.out _).mono ?_); rintro e w5 ⟨rfl, hb5⟩; have hq5 := hb5.alloc hb5.size (.cells #[.int .i64 z, .string ⟨d.toArray⟩] 36); have HS5 := Lib.hid (HS4.out.below hq5); have HO5 := Lib.hid (HO5.out.below hq5); have HLC := Lib.hid (lit_one w5 z d); clear hb5 hq5) | (at_builtin; refine wp_catS rfl _ _ rfl (z, d) _ _ HS5.out HLC.out rfl rfl HLE.out ?_; intro v6 w6 hs6 hg6; have HS6 := Lib.hid hs6; have HO6 := Lib.hid (HO5.out.grown hg6 (fun e => Nat.lt_irrefl _ (NE.out _ e.symm))); have d06 := HO6.out.cell 0 _ rfl; have hz6 := HO6.out.lt; clear hs6 hg6) | (at_lookup; refine step_seen rfl _ _ rfl HS6.out z c HCC.out HW.out rfl rfl ?_) | (at_mapUpdate; refine wp_count rfl _ _ _ rfl HS6.out z d c HCC.out HW.out (by omega) rfl rfl rfl HWC.out ?_; intro w7 hs7; have HS7 := Lib.hid hs7; clear hs7))
            go_roundw
            case rel => exact ⟨k + 1, by omega, by go_num, by rw [HT.out, HJ.out, HB.out]; exact HS7.out⟩
            case measure => simp [intOf]; omega
          · have C2 : Hid (∀ W, Pl.Lnk B W l → Calls Try.prog g2 #[v2] W fun e w' => e = .returned (.bool true) ∧ Below W.heap.size W w') := Lib.hid (hg ▸ C2.out)
            cases hq : decide ((0 : Int) < (c : Int))
            · have HB : Hid (badP l (z, d) L = false) := Lib.hid (by rw [HBE.out, hf, hg, hq]; rfl)
              have HQ := Lib.hid hq
              clear hf hg HBE CP hq
              go_wp2_with (first | (refine step_pos rfl _ rfl c false HQ.out rfl ?_) | (at_lookup; refine step_seen rfl _ _ rfl HS4.out z c HCC.out HW.out rfl rfl ?_) | (refine wpList_load rfl 51 _ rfl ⟨w.heap.size, 0, none⟩ _ rfl (LD.out _ HA2.out.side) ?_) | (go_at_call 20; (refine (RU.out _).mono ?_); rintro e w2 ⟨rfl, hb2⟩; have HS2 := Lib.hid (HA2.out.below hb2); have HO3 := Lib.hid (HO2.out.below hb2); have d0 := HO3.out.cell 0 _ rfl; have d1 := HO3.out.cell 1 _ rfl; have hz2 := HO3.out.lt; clear hb2) | (go_at_fn g1; (refine (C1.out _).mono ?_); rintro e w3 ⟨rfl, hb3⟩; have HS3 := Lib.hid (HS2.out.below hb3); have HO4 := Lib.hid (HO3.out.below hb3); have d03 := HO4.out.cell 0 _ rfl; have d13 := HO4.out.cell 1 _ rfl; have hz3 := HO4.out.lt; clear hb3) | (go_at_fn g2; (refine (C2.out _ (LB.out _ HS3.out.base)).mono ?_); rintro e w4 ⟨rfl, hb4⟩; have HS4 := Lib.hid (HS3.out.below hb4); have HO5 := Lib.hid (HO4.out.below hb4); have d04 := HO5.out.cell 0 _ rfl; have d14 := HO5.out.cell 1 _ rfl; have hz4 := HO5.out.lt; clear hb4) | (at_mapUpdate; refine wp_count rfl _ _ _ rfl HS4.out z d c HCC.out HW.out (by omega) rfl rfl rfl HWC.out ?_; intro w7 hs7; have HS7 := Lib.hid hs7; clear hs7))
              go_roundw
              case rel => exact ⟨k + 1, by omega, by go_num, by rw [HT.out, HJ.out, HB.out]; exact (List.append_nil acc).symm ▸ HS7.out⟩
              case measure => simp [intOf]; omega
            · have HB : Hid (badP l (z, d) L = true) := Lib.hid (by rw [HBE.out, hf, hg, hq]; rfl)
              have HQ := Lib.hid hq
              clear hf hg HBE hq
              go_wp2_with (first | (refine step_pos rfl _ rfl c true HQ.out rfl ?_) | (at_lookup; refine step_seen rfl _ _ rfl HS4.out z c HCC.out HW.out rfl rfl ?_) | (refine wpList_load rfl 51 _ rfl ⟨w.heap.size, 0, none⟩ _ rfl (LD.out _ HA2.out.side) ?_) | (go_at_call 20; (refine (RU.out _).mono ?_); rintro e w2 ⟨rfl, hb2⟩; have HS2 := Lib.hid (HA2.out.below hb2); have HO3 := Lib.hid (HO2.out.below hb2); have d0 := HO3.out.cell 0 _ rfl; have d1 := HO3.out.cell 1 _ rfl; have hz2 := HO3.out.lt; clear hb2) | (go_at_fn g1; (refine (C1.out _).mono ?_); rintro e w3 ⟨rfl, hb3⟩; have HS3 := Lib.hid (HS2.out.below hb3); have HO4 := Lib.hid (HO3.out.below hb3); have d03 := HO4.out.cell 0 _ rfl; have d13 := HO4.out.cell 1 _ rfl; have hz3 := HO4.out.lt; clear hb3) | (go_at_fn g2; (refine (C2.out _ (LB.out _ HS3.out.base)).mono ?_); rintro e w4 ⟨rfl, hb4⟩; have HS4 := Lib.hid (HS3.out.below hb4); have HO5 := Lib.hid (HO4.out.below hb4); have d04 := HO5.out.cell 0 _ rfl; have d14 := HO5.out.cell 1 _ rfl; have hz4 := HO5.out.lt; clear hb4) | (go_at_call 27; (refine (CP.out _).mono ?_); rintro e w5 ⟨rfl, hb5⟩; have hq5 := hb5.alloc hb5.size (.cells #[.int .i64 z, .string ⟨d.toArray⟩] 36); have HS5 := Lib.hid (HS4.out.below hq5); have HO5 := Lib.hid (HO5.out.below hq5); have HLC := Lib.hid (lit_one w5 z d); clear hb5 hq5) | (at_builtin; refine wp_catS rfl _ _ rfl (z, d) _ _ HS5.out HLC.out rfl rfl HLE.out ?_; intro v6 w6 hs6 hg6; have HS6 := Lib.hid hs6; have HO6 := Lib.hid (HO5.out.grown hg6 (fun e => Nat.lt_irrefl _ (NE.out _ e.symm))); have d06 := HO6.out.cell 0 _ rfl; have hz6 := HO6.out.lt; clear hs6 hg6) | (at_lookup; refine step_seen rfl _ _ rfl HS6.out z c HCC.out HW.out rfl rfl ?_) | (at_mapUpdate; refine wp_count rfl _ _ _ rfl HS6.out z d c HCC.out HW.out (by omega) rfl rfl rfl HWC.out ?_; intro w7 hs7; have HS7 := Lib.hid hs7; clear hs7))
              go_roundw
              case rel => exact ⟨k + 1, by omega, by go_num, by rw [HT.out, HJ.out, HB.out]; exact HS7.out⟩
              case measure => simp [intOf]; omega
      · have HB : Hid (badP l (z, d) L = true) := Lib.hid (by unfold badP; simp only; rw [decide_eq_false hat]; rfl)
        have RU : Hid (∀ W, Calls Try.prog 20 #[.agg SC, .int .i64 z] W fun e w' => e = .returned (.tuple #[.nilIface, .bool false]) ∧ Below W.heap.size W w') := Lib.hid fun W => by
          have h := rule_miss B z hat W
          rwa [← HSC.out] at h
        clear hat
        go_wp2_with (first | (refine wpList_load rfl 51 _ rfl ⟨w.heap.size, 0, none⟩ _ rfl (LD.out _ HA2.out.side) ?_) | (go_at_call 20; (refine (RU.out _).mono ?_); rintro e w2 ⟨rfl, hb2⟩; have HS2 := Lib.hid (HA2.out.below hb2); have HO3 := Lib.hid (HO2.out.below hb2); have d0 := HO3.out.cell 0 _ rfl; have d1 := HO3.out.cell 1 _ rfl; have hz2 := HO3.out.lt; clear hb2) | (go_at_call 27; (refine (CP.out _).mono ?_); rintro e w5 ⟨rfl, hb5⟩; have hq5 := hb5.alloc hb5.size (.cells #[.int .i64 z, .string ⟨d.toArray⟩] 36); have HS5 := Lib.hid (HS2.out.below hq5); have HO5 := Lib.hid (HO3.out.below hq5); have HLC := Lib.hid (lit_one w5 z d); clear hb5 hq5) | (at_builtin; refine wp_catS rfl _ _ rfl (z, d) _ _ HS5.out HLC.out rfl rfl HLE.out ?_; intro v6 w6 hs6 hg6; have HS6 := Lib.hid hs6; have HO6 := Lib.hid (HO5.out.grown hg6 (fun e => Nat.lt_irrefl _ (NE.out _ e.symm))); have d06 := HO6.out.cell 0 _ rfl; have hz6 := HO6.out.lt; clear hs6 hg6) | (at_lookup; refine step_seen rfl _ _ rfl HS6.out z c HCC.out HW.out rfl rfl ?_) | (at_mapUpdate; refine wp_count rfl _ _ _ rfl HS6.out z d c HCC.out HW.out (by omega) rfl rfl rfl HWC.out ?_; intro w7 hs7; have HS7 := Lib.hid hs7; clear hs7))
        go_roundw
        case rel => exact ⟨k + 1, by omega, by go_num, by rw [HT.out, HJ.out, HB.out]; exact HS7.out⟩
        case measure => simp [intOf]; omega
    · obtain rfl : k = os.length := by omega
      go_wp2_with fail
      go_ret
      exact ⟨_, rfl, HS.out.own1⟩
end Go.Proofs.Ytiadndcodjpijaa.Pr
