/-
  What the program's links ask by.
-/
import Derived.Test.YteabkmelnoefiaaGreatDoorZ17
namespace Go.Proofs.YteabkmelnoefiaaGreatDoor.Pr
open Go.RowKit
set_option maxRecDepth 100000
def asksTo (l : Pol.Lk) : Nat → List Opt.Op
  | 0 => []
  | k + 1 => asksTo l k ++ (if asksAt l k then [(kind k, dataAt l k)] else [])
theorem asks_to (l : Pol.Lk) : asksTo l 6 = Pol.asks l := by
  have ho : ∀ (k : Int) (x : Int) (j : Nat), (if (x != 0) = true then [(k, Pol.be j x.toNat)] else []) = Pol.opt k x j := by
    intro k x j
    unfold Pol.opt
    by_cases h : x = 0 <;> simp [h]
  have hd : (if (!l.disc.isEmpty) = true then [((19 : Int), l.disc)] else []) = (if l.disc = [] then [] else [(19, l.disc)]) := by
    cases l.disc <;> simp
  unfold Pol.asks
  simp only [asksTo, asksAt, dataAt, kind, ho, hd, List.nil_append]
theorem asksTo_le (l : Pol.Lk) (k : Nat) : (asksTo l k).length ≤ k := by
  induction k with
  | zero => exact Nat.le_refl 0
  | succ k ih =>
    show (asksTo l k ++ _).length ≤ _
    rw [List.length_append]
    split <;> simp <;> omega
set_option maxHeartbeats 3200000 in
set_option maxRecDepth 100000 in
theorem ask_own (l : Pol.Lk) (w : World) :
    Calls Tryz.prog 30 #[.agg (Pl.lcs l).toArray] w fun e w' => ∃ u, e = .returned (.tuple #[u, .int .i64 (Pol.ask l).2]) ∧ OwnsO w w' u (Pol.ask l).1 := by
  obtain ⟨w1, hw1⟩ : ∃ w1, w1 = w.alloc (.cells (Pl.lcs l).toArray 23) := ⟨_, rfl⟩
  have H1 : Hid (Below w.heap.size w w1) := Lib.hid (hw1 ▸ (Below.refl w.heap.size w).alloc (Nat.le_refl _) _)
  have L1 : Hid (Pl.Lnk w.heap.size w1 l) := Lib.hid (hw1 ▸ Pl.Lnk.new w l)
  obtain ⟨SC, hSC⟩ : ∃ SC, SC = (scs w.heap.size).toArray := ⟨_, rfl⟩
  have SA := Lib.hid fun W => side_any w.heap.size W
  have SM := Lib.hid fun W h => side_may w.heap.size l W h
  rw [← hSC] at SA SM
  have HSC := Lib.hid hSC
  clear hSC
  have HJ : Hid (Pol.ask l = if Pol.may l then (Pol.asks l, 0) else ([], 1400)) := Lib.hid rfl
  obtain ⟨J, hJ⟩ : ∃ J, J = Pol.ask l := ⟨_, rfl⟩
  rw [← hJ] at HJ ⊢
  clear hJ
  cases hm : Pol.may l
  · rw [hm] at SM HJ
    have HE : J = ([], 1400) := HJ.out
    subst HE
    clear HJ hm
    go_enter Tryz.func30, Tryz.ntmps30
    go_wp2_with fail
    rw [← hw1]
    clear hw1
    go_wp2_with (first | (go_at_call 48; (refine (SA.out _).mono ?_); rintro e w2 ⟨rfl, hb2⟩; obtain ⟨w3, hs3, hr3, hb3⟩ := row_new (L1.out.below hb2) HSC.out; have HST := Lib.hid hs3; have HR3 := Lib.hid hr3; have HL3 := Lib.hid (hr3.load HSC.out); have HB3 := Lib.hid (bel2 (bel2 H1.out hb2) hb3); clear hs3 hr3 hb2 hb3) | (refine wpList_store rfl _ _ _ rfl ⟨w2.heap.size, 0, none⟩ _ w3 rfl rfl HST.out ?_) | (refine wpList_load rfl 97 _ rfl ⟨w2.heap.size, 0, none⟩ _ rfl (by with_reducible first | exact HL3.out | exact HL4.out) ?_) | (go_at_call 49; (refine (SM.out _ HR3.out.1).mono ?_); rintro e w4 ⟨rfl, hb4⟩; have HB4 := Lib.hid (bel2 HB3.out hb4); have HR4 := Lib.hid (HR3.out.below hb4); have HL4 := Lib.hid (HR4.out.load HSC.out); clear hb4))
    go_returns
    exact ⟨_, rfl, ⟨World.ownsRow_nil _ _ _ _, HB4.out⟩⟩
  · rw [hm] at SM HJ
    have HE : J = (Pol.asks l, 0) := HJ.out
    subst HE
    have HPL := Lib.hid (may_plain l hm)
    clear HJ hm
    go_enter Tryz.func30, Tryz.ntmps30
    go_wp2_with fail
    rw [← hw1]
    clear hw1
    go_wp2_with (first | (go_at_call 48; (refine (SA.out _).mono ?_); rintro e w2 ⟨rfl, hb2⟩; obtain ⟨w3, hs3, hr3, hb3⟩ := row_new (L1.out.below hb2) HSC.out; have HST := Lib.hid hs3; have HR3 := Lib.hid hr3; have HL3 := Lib.hid (hr3.load HSC.out); have HB3 := Lib.hid (bel2 (bel2 H1.out hb2) hb3); clear hs3 hr3 hb2 hb3) | (refine wpList_store rfl _ _ _ rfl ⟨w2.heap.size, 0, none⟩ _ w3 rfl rfl HST.out ?_) | (refine wpList_load rfl 97 _ rfl ⟨w2.heap.size, 0, none⟩ _ rfl (by with_reducible first | exact HL3.out | exact HL4.out) ?_) | (go_at_call 49; (refine (SM.out _ HR3.out.1).mono ?_); rintro e w4 ⟨rfl, hb4⟩; have HB4 := Lib.hid (bel2 HB3.out hb4); have HR4 := Lib.hid (HR3.out.below hb4); have HL4 := Lib.hid (HR4.out.load HSC.out); clear hb4))
    go_loopw [5, 13] (fun u i wr => ∃ k : Nat, k ≤ 6 ∧ i = .int .i64 (k : Int) ∧ OwnsO w4 wr u (asksTo l k)) (fun _ i _ => 6 - (intOf i).toNat)
    case atStart => exact ⟨0, by omega, rfl, OwnsO.nil w4⟩
    case round =>
      obtain ⟨k, hk, rfl, hs⟩ := hrel
      have HS := Lib.hid hs
      clear hs
      by_cases hlt : k < 6
      · obtain ⟨T, R, z, hp⟩ := plc (B := w.heap.size) hlt HSC.out
        obtain ⟨g1, v1, hm1, hc1⟩ := m_asks w.heap.size k hlt
        obtain ⟨g2, v2, hm2, hc2⟩ := m_data w.heap.size k hlt
        rw [← hp.2.2.1, ← hp.2.2.2.1] at hm1 hm2
        obtain ⟨m1, m1'⟩ := hm1
        obtain ⟨m2, m2'⟩ := hm2
        have HJ : Hid (asksTo l (k + 1) = asksTo l k ++ (if asksAt l k then [(z, dataAt l k)] else [])) := Lib.hid (by rw [hp.2.2.2.2]; rfl)
        have C1 := Lib.hid fun W h => hc1 W l h
        have C2 := Lib.hid fun W h => hc2 W l h HPL.out
        have HP := Lib.hid hp
        have hle := asksTo_le l k
        clear hp hc1 hc2
        generalize asksTo l k = acc at *
        generalize dataAt l k = X at *
        have HA2 := Lib.hid (HS.out.below ((Below.refl _ wr).alloc (Nat.le_refl _) (.cells #[.int .i64 z, .iface T R] 95)))
        have HO2 := Lib.hid (Arr.new wr [.int .i64 z, .iface T R] 95)
        have NE : Hid (∀ j, u5.ownBlock = some j → j < wr.heap.size) := Lib.hid fun j hj => (HS.out.1.lt j hj).2
        have LB : Hid (∀ W, Below w4.heap.size w4 W → Pl.Lnk w.heap.size W l) := Lib.hid fun W hb => HR4.out.1.below hb
        cases hq : asksAt l k
        · rw [hq] at C1 HJ
          clear hq C2 m2 m2'
          go_wp2_with (first | (refine step_place HP.out rfl _ _ rfl rfl rfl ?_) | (go_at_fn g1; (refine (C1.out _ (LB.out _ HA2.out.2)).mono ?_); rintro e w6 ⟨rfl, hb6⟩; have HS6 := Lib.hid (HA2.out.below hb6); clear hb6))
          go_roundw
          case rel => exact ⟨k + 1, by omega, by go_num, by rw [HJ.out]; exact (List.append_nil acc).symm ▸ HS6.out⟩
          case measure => simp [intOf]; omega
        · rw [hq] at C1 HJ
          clear hq
          go_upto_region 9 with (first | (refine step_place HP.out rfl _ _ rfl rfl rfl ?_) | (go_at_fn g1; (refine (C1.out _ (LB.out _ HA2.out.2)).mono ?_); rintro e w6 ⟨rfl, hb6⟩; have HS6 := Lib.hid (HA2.out.below hb6); have HO6 := Lib.hid (HO2.out.below hb6); clear hb6))
          have SC6 : Hid (∀ a : World, Below w6.heap.size w6 a → a.cell? ⟨wr.heap.size, 0, none⟩ = some (.int .i64 z) ∧ a.cell? ⟨wr.heap.size, 1, none⟩ = some (.iface T R) ∧ Below w4.heap.size w4 a) := Lib.hid fun a hb => ⟨(HO6.out.below hb).cell 0 _ rfl, (HO6.out.below hb).cell 1 _ rfl, bel2 HS6.out.2 hb⟩
          go_region_held_law (fun a => a.cell? ⟨wr.heap.size, 0, none⟩ = some (.int .i64 z) ∧ a.cell? ⟨wr.heap.size, 1, none⟩ = some (.iface T R) ∧ Below w4.heap.size w4 a) (first | assumption | exact SC6.out _ (Below.refl _ w6).drew | exact SC6.out _ hq7 | exact SC6.out _ hq8 | exact hS9)
            (first
              | (refine step_catG rfl _ _ rfl acc (z, X) _ _ HS8.out HLX.out rfl rfl (by omega) ?_; intro v9 w9 ho9 hg9; have HO9 := Lib.hid ho9; have hS9 : w9.cell? ⟨wr.heap.size, 0, none⟩ = some (.int .i64 z) ∧ w9.cell? ⟨wr.heap.size, 1, none⟩ = some (.iface T R) ∧ Below w4.heap.size w4 w9 := ⟨(HO8.out.grown hg9 (fun e => Nat.lt_irrefl _ (NE.out _ e.symm))).cell 0 _ rfl, (HO8.out.grown hg9 (fun e => Nat.lt_irrefl _ (NE.out _ e.symm))).cell 1 _ rfl, ho9.2⟩; clear ho9 hg9)
              | (go_at_fn g2; (refine (C2.out _ (LB.out _ HS6.out.2.drew)).mono ?_); rintro e w7 ⟨rfl, hb7⟩; have hq7 : Below w6.heap.size w6 w7 := ⟨hb7.os, hb7.tape, hb7.output, hb7.size, hb7.block⟩; have hq8 := hq7.alloc hq7.size (.cells #[.int .i64 z, .string ⟨X.toArray⟩] 82); have HS8 := Lib.hid (HS6.out.below hq8); have HO8 := Lib.hid (HO6.out.below hq8); have HLX := Lib.hid (lit_one w7 z X); clear hb7))
          go_wp2_with fail
          go_roundw
          case rel => exact ⟨k + 1, by omega, by go_num, by rw [HJ.out]; exact HO9.out⟩
          case measure => simp [intOf]; omega
      · obtain rfl : k = 6 := by omega
        rw [asks_to] at HS
        go_wp2_with fail
        go_returns
        exact ⟨_, rfl, HS.out.base HB4.out⟩
theorem ask_any (l : Pol.Lk) (w : World) :
    Calls Tryz.prog 30 #[.agg (Pl.lcs l).toArray] w fun e w' => ∃ u, e = .returned (.tuple #[u, .int .i64 (Pol.ask l).2]) ∧ ReadsO w' u (Pol.ask l).1 ∧ Below w.heap.size w w' := by
  refine (ask_own l w).mono ?_
  rintro e w' ⟨u, h1, h2⟩
  exact ⟨u, h1, h2.reads, h2.2⟩
end Go.Proofs.YteabkmelnoefiaaGreatDoor.Pr
