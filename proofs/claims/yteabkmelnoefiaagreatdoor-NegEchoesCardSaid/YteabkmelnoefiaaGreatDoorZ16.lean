/-
  The program's better options.
-/
import Derived.Test.YteabkmelnoefiaaGreatDoorZ15
import Derived.Test.YteabkmelnoefiaaGreatDoorZ06
import Derived.Deep.RegionHeldLaw
namespace Go.Proofs.YteabkmelnoefiaaGreatDoor.Pr
open Go.RowKit
set_option maxRecDepth 100000
theorem nm_two (n : Nat) (h : n < 65536) : nm (Pol.be 2 n) = (n : Int) := Pl.nm_be 2 n (by omega) (by omega)
theorem better_wish (own : Pol.Lk) (hp : Plain own) (o : Opt.Op) (h : Pol.right o = true) : (Pol.better nm own o).toList = if wishAt own (at' o.1) o.2 = o.2 then [] else [(o.1, wishAt own (at' o.1) o.2)] := by
  obtain ⟨z, d⟩ := o
  rw [right_fit] at h
  simp only [Bool.and_eq_true, decide_eq_true_eq] at h
  obtain ⟨hat, hf⟩ := h
  have hk := kind_at z hat
  unfold Pol.better
  simp only
  generalize at' z = k at *
  subst hk
  have n1500 : nm (Pol.be 2 1500) = 1500 := nm_two 1500 (by omega)
  have unit' : ∀ d : List UInt8, (if Pol.unit (nm d) = true then d else Pol.be 2 1500) = d ↔ Pol.unit (nm d) = true := by
    intro d
    by_cases hu : Pol.unit (nm d) = true
    · simp [hu]
    · simp only [if_neg hu]
      constructor
      · intro e
        rw [← e, n1500] at hu
        exact absurd rfl hu
      · intro e; exact absurd e hu
  have ht := u32_turn own.magic hp.2.1 hp.2.2.2.2.2
  have magic' : ∀ d : List UInt8, (if nm d = 0 ∨ nm d = own.magic then Pol.be 4 (Pol.turn own.magic).toNat else d) = d ↔ ¬ (nm d = 0 ∨ nm d = own.magic) := by
    intro d
    by_cases hu : nm d = 0 ∨ nm d = own.magic
    · rw [if_pos hu]
      constructor
      · intro e
        have e2 : nm d = Pol.turn own.magic := by
          rw [← e, show nm (Pol.be 4 (Pol.turn own.magic).toNat) = (((Pol.turn own.magic).toNat : Nat) : Int) from Pl.nm_be 4 _ (by omega) (by omega)]
          omega
        have h0 := hp.2.1
        unfold Pol.turn at e2
        exfalso
        split at e2 <;> omega
      · intro e; exact absurd hu e
    · rw [if_neg hu]; simp [hu]
  match k, hat with
  | 0, _ =>
    simp only [wishAt, kind]
    by_cases hu : Pol.unit (nm d) = true
    · simp [hu]
    · rw [if_neg (fun e => hu ((unit' d).1 e)), if_neg hu]
      simp [hu]
  | 1, _ =>
    simp only [wishAt, kind]
    by_cases hu : nm d = 0 ∨ nm d = own.magic
    · have he : ¬ (if nm d = 0 ∨ nm d = own.magic then Pol.be 4 (Pol.turn own.magic).toNat else d) = d := fun e => (magic' d).1 e hu
      rw [if_neg he, if_pos hu]
      simp [hu]
    · rw [if_pos ((magic' d).2 hu)]
      simp [hu]
  | 2, _ =>
    simp only [wishAt, kind]
    by_cases hu : Pol.unit (nm d) = true
    · simp [hu]
    · rw [if_neg (fun e => hu ((unit' d).1 e)), if_neg hu]
      simp [hu]
  | 3, _ => simp [wishAt, kind]
  | 4, _ => simp [wishAt, kind]
  | 5, _ => simp [wishAt, kind]
theorem bad_right (own : Pol.Lk) (os : List Opt.Op) (k : Nat) (h : Pol.bad own os k = false) : Pol.right (Pol.g os k) = true := by
  unfold Pol.bad at h
  simp only [Bool.or_eq_false_iff, Bool.not_eq_false'] at h
  exact h.1.1
theorem naks_le (own : Pol.Lk) (os : List Opt.Op) (k : Nat) : (Pol.naks nm own os k).length ≤ k := by
  induction k with
  | zero => exact Nat.le_refl 0
  | succ k ih =>
    show (Pol.naks nm own os k ++ _).length ≤ _
    rw [List.length_append]
    split
    · simp; omega
    · cases Pol.better nm own (Pol.g os k) <;> simp <;> omega
theorem wish_le (own : Pol.Lk) (k : Nat) (d : List UInt8) (h : d.length ≤ 1000000) : (wishAt own k d).length ≤ 1000000 := by
  unfold wishAt
  split
  · split
    · exact h
    · rw [Pol.be_length]; omega
  · split
    · rw [Pol.be_length]; omega
    · exact h
  · split
    · exact h
    · rw [Pol.be_length]; omega
  · exact h
theorem step_catG {ops : Array Oper} {o : Oper} {a : Act} {K : Act → World → Prop} {Q : Exit → Act → World → Prop} {E : Prop} (hgd : o.guard = none) (sl x : Operand)
    (ho : o.op = .call { callee := .builtin .append, args := #[sl, x], argTypes := #[34, 34] })
    {W w : World} {v : Value} (acc : List Opt.Op) (c : Opt.Op) (ad : Addr) (cap : Nat) (hown : OwnsO w W v acc) (hc : ∀ j y, (cellsO [c])[j]? = some y → W.cell? (ad.add j) = some y)
    (hs : a.eval sl = v) (hx : a.eval x = .slice (some ad) 1 cap) (hl : (acc.length + 1) * 24 ≤ 140737488355328)
    (h : ∀ v' w', OwnsO w w' v' (acc ++ [c]) → W.grownBy w' v.ownBlock → K (a.put o.dst v') w') :
    if Region.wanted o (yielded ops a.tmps) = true then Oper.wp Tryz.prog o a W K Q else E := by
  have hw : Region.wanted o (yielded ops a.tmps) = true := by simp [Region.wanted, hgd]
  rw [if_pos hw]
  obtain ⟨i0, hi, hz0, hz1, hz2⟩ := info_parts infoO
  refine wp_append_own _ sl x 34 ho w.heap.size 82 i0 (.agg #[.int .i64 0, .string ⟨#[]⟩]) 2 24 Tryz.underlying34 hi hz0 hz1 hz2 rfl (by decide) v acc.length (cellsO acc) hs hown.1 ad 1 cap (cellsO [c]) hx (cellsO_length [c]) hc (cellsO_one [c]) (by unfold maxLen; omega) hl hown.2.size
    fun v' w' h1 h2 _ => h v' w' ⟨?_, hown.2.grown h2 hown.2.size (fun k hk => (hown.1.lt k hk).1)⟩ h2
  rw [cellsO_append, List.length_append]
  exact h1
set_option maxHeartbeats 3200000 in
set_option maxRecDepth 100000 in
theorem bet_any (B : Nat) (l : Pol.Lk) (w : World) (h : Pl.Lnk B w l) (hp : Plain l) (v : Value) (os : List Opt.Op) (hr : ReadsO w v os) (hl : os.length ≤ 1000000) (hd : ∀ o ∈ os, o.2.length ≤ 1000000) (hb : ∀ k, k < os.length → Pol.bad l os k = false) :
    Calls Tryz.prog 102 #[.agg (scs B).toArray, v] w fun e w' => ∃ u, e = .returned u ∧ OwnsO w w' u (Pol.naks nm l os os.length) := by
  have HL := Lib.hid h
  obtain ⟨q, cap, b, off, rfl, _, _, hi, hc⟩ := hr.at
  have HI := Lib.hid hi
  have HC := Lib.hid hc
  have HD := Lib.hid hd
  have HBD := Lib.hid hb
  have HPL := Lib.hid hp
  obtain ⟨w1, hw1⟩ : ∃ w1, w1 = w.alloc (.cells (scs B).toArray 97) := ⟨_, rfl⟩
  have H1 : Hid (Below w.heap.size w w1) := Lib.hid (hw1 ▸ (Below.refl w.heap.size w).alloc (Nat.le_refl _) _)
  have A1 : Hid (Arr w.heap.size w1 (scs B)) := Lib.hid (hw1 ▸ side_box B w)
  clear hi hc hr hd hb h hp
  obtain ⟨SC, hSC⟩ : ∃ SC, SC = (scs B).toArray := ⟨_, rfl⟩
  rw [← hSC] at hw1 ⊢
  have HSC := Lib.hid hSC
  clear hSC
  have LD : Hid (∀ W, Below w1.heap.size w1 W → (loadVar 97 ⟨w.heap.size, 0, none⟩).run Tryz.prog W = .ok (.agg SC) W) := Lib.hid fun W hA => by rw [HSC.out]; exact side_load (A1.out.below hA)
  go_enter Tryz.func102, Tryz.ntmps102
  go_wp2_with fail
  rw [← hw1]
  clear hw1
  go_loopw [5, 12] (fun u i wr => ∃ k : Nat, k ≤ os.length ∧ i = .int .i64 (k : Int) ∧ OwnsO w1 wr u (Pol.naks nm l os k)) (fun _ i _ => os.length - (intOf i).toNat)
  case atStart => exact ⟨0, Nat.zero_le _, rfl, OwnsO.nil w1⟩
  case round =>
    obtain ⟨k, hk, rfl, hs⟩ := hrel
    have HS := Lib.hid hs
    clear hs
    by_cases hlt : k < os.length
    · have hi := HI.out k hlt
      obtain ⟨c0, c1⟩ := HC.out k hlt
      have hw0 := bel2 H1.out HS.out.2
      rw [← hw0.cell (block_lt_of_cell c0)] at c0
      rw [← hw0.cell (block_lt_of_cell c1)] at c1
      clear hw0
      have hdk := HD.out os[k] (List.getElem_mem hlt)
      have hrt := bad_right l os k (HBD.out k hlt)
      rw [Pol.g_eq os k hlt] at hrt
      have HJ : Hid (Pol.naks nm l os (k + 1) = Pol.naks nm l os k ++ (if wishAt l (at' os[k].1) os[k].2 = os[k].2 then [] else [(os[k].1, wishAt l (at' os[k].1) os[k].2)])) := Lib.hid (by
        show Pol.naks nm l os k ++ (if Pol.bad l os k then [] else (Pol.better nm l (Pol.g os k)).toList) = _
        rw [HBD.out k hlt, Pol.g_eq os k hlt, better_wish l HPL.out _ hrt]
        rfl)
      have hle := naks_le l os k
      generalize Pol.naks nm l os k = acc at *
      generalize os[k] = o at *
      obtain ⟨z, d⟩ := o
      rw [right_fit] at hrt
      simp only [Bool.and_eq_true, decide_eq_true_eq] at hrt
      obtain ⟨hat, _⟩ := hrt
      obtain ⟨o8, ho8⟩ : ∃ o8, o8 = off + 2 * k := ⟨_, rfl⟩
      rw [← ho8] at hi c0 c1
      clear ho8
      simp only at hdk
      have hwl := wish_le l (at' z) d hdk
      obtain ⟨T, R, z', hp⟩ := plc (B := B) hat HSC.out
      obtain ⟨g1, v1, hm1, hc1⟩ := m_wish B (at' z) hat
      have RU : Hid (∀ W, Calls Tryz.prog 104 #[.agg SC, .int .i64 z] W fun e w' => e = .returned (.tuple #[.iface T R, .bool true]) ∧ Below W.heap.size W w') := Lib.hid fun W => by
        have h := rule_any B z W
        rw [← HSC.out, show found B (at' z) = .tuple #[.iface (tys (at' z)) (rcv B (at' z)), .bool true] from if_pos hat, ← hp.2.2.1, ← hp.2.2.2.1] at h
        exact h
      rw [← hp.2.2.1, ← hp.2.2.2.1] at hm1
      obtain ⟨m1, m1'⟩ := hm1
      have C1 : Hid (∀ W, Pl.Lnk B W l → Calls Tryz.prog g1 #[v1, .string ⟨d.toArray⟩] W fun e w' => e = .returned (.string ⟨(wishAt l (at' z) d).toArray⟩) ∧ Below W.heap.size W w') := Lib.hid fun W hL => hc1 W l d hL HPL.out (by omega)
      clear hp hc1 hat
      simp only at HJ
      generalize wishAt l (at' z) d = X at *
      have HA2 := Lib.hid (HS.out.below ((Below.refl _ wr).alloc (Nat.le_refl _) (.cells #[.int .i64 z, .string ⟨d.toArray⟩] 82)))
      have HO2 := Lib.hid (Arr.new wr [.int .i64 z, .string ⟨d.toArray⟩] 82)
      have NE : Hid (∀ j, u5.ownBlock = some j → j < wr.heap.size) := Lib.hid fun j hj => (HS.out.1.lt j hj).2
      have LB : Hid (∀ W, Below w1.heap.size w1 W → Pl.Lnk B W l) := Lib.hid fun W hb => HL.out.below (bel2 H1.out hb)
      go_wp2_with (first | (refine wpList_load rfl 97 _ rfl ⟨w.heap.size, 0, none⟩ _ rfl (LD.out _ HA2.out.2) ?_) | (go_at_call 104; (refine (RU.out _).mono ?_); rintro e w2 ⟨rfl, hb2⟩; have HS2 := Lib.hid (HA2.out.below hb2); have HO3 := Lib.hid (HO2.out.below hb2); have d0 := HO3.out.cell 0 _ rfl; have d1 := HO3.out.cell 1 _ rfl; have hz2 := HO3.out.lt; clear hb2))
      have SB : Hid (∀ a : World, Below w2.heap.size w2 a → a.cell? ⟨wr.heap.size, 0, none⟩ = some (.int .i64 z) ∧ a.cell? ⟨wr.heap.size, 1, none⟩ = some (.string ⟨d.toArray⟩) ∧ Below w2.heap.size w2 a) := Lib.hid fun a hb => ⟨(HO3.out.below hb).cell 0 _ rfl, (HO3.out.below hb).cell 1 _ rfl, hb⟩
      have BS : Hid (∀ a : World, (a.cell? ⟨wr.heap.size, 0, none⟩ = some (.int .i64 z) ∧ a.cell? ⟨wr.heap.size, 1, none⟩ = some (.string ⟨d.toArray⟩) ∧ Below w2.heap.size w2 a) → Below w2.heap.size w2 a) := Lib.hid fun a h => h.2.2
      go_region_held (fun a => a.cell? ⟨wr.heap.size, 0, none⟩ = some (.int .i64 z) ∧ a.cell? ⟨wr.heap.size, 1, none⟩ = some (.string ⟨d.toArray⟩) ∧ Below w2.heap.size w2 a) (first | assumption | exact SB.out _ (Below.refl _ w2).drew | exact SB.out _ (bel2 (BS.out _ (by assumption)) hb4)) (first | (go_at_fn g1; (refine (C1.out _ (LB.out _ (bel2 HS2.out.2 (BS.out _ (by assumption))))).mono ?_); rintro e w4 ⟨rfl, hb4⟩))
      rename_i hH
      have HH := Lib.hid hH.2.2
      have d04 := hH.1
      have d14 := hH.2.1
      have hz4 := block_lt_of_cell d04
      have HS4 := Lib.hid (HS2.out.below HH.out)
      have HO4 := Lib.hid (HO3.out.below HH.out)
      clear hH hb4 d0 d1 hz2
      by_cases hx : X = d
      · have hq : (!X == d) = false := by simp [hx]
        have HX := Lib.hid hx
        rw [hq]
        clear hx hq
        go_wp2_with fail
        go_roundw
        case rel => exact ⟨k + 1, by omega, by go_num, by rw [HJ.out, if_pos HX.out, List.append_nil]; exact HS4.out⟩
        case measure => simp [intOf]; omega
      · have hq : (!X == d) = true := by simp [hx]
        have HX := Lib.hid hx
        rw [hq]
        clear hx hq
        go_upto_region 7 with (fail)
        have SC4 : Hid (∀ a : World, Below w4.heap.size w4 a → a.cell? ⟨wr.heap.size, 0, none⟩ = some (.int .i64 z) ∧ a.cell? ⟨wr.heap.size, 1, none⟩ = some (.string ⟨d.toArray⟩) ∧ Below w1.heap.size w1 a) := Lib.hid fun a hb => ⟨(HO4.out.below hb).cell 0 _ rfl, (HO4.out.below hb).cell 1 _ rfl, bel2 HS4.out.2 hb⟩
        go_region_held_law (fun a => a.cell? ⟨wr.heap.size, 0, none⟩ = some (.int .i64 z) ∧ a.cell? ⟨wr.heap.size, 1, none⟩ = some (.string ⟨d.toArray⟩) ∧ Below w1.heap.size w1 a) (first | assumption | exact SC4.out _ (Below.refl _ w4).drew | exact SC4.out _ hq6 | exact SC4.out _ hq7 | exact hS7)
          (first
            | (refine step_catG rfl _ _ rfl acc (z, X) _ _ HS6.out HLX.out rfl rfl (by omega) ?_; intro v7 w7 ho7 hg7; have HO7 := Lib.hid ho7; have hS7 : w7.cell? ⟨wr.heap.size, 0, none⟩ = some (.int .i64 z) ∧ w7.cell? ⟨wr.heap.size, 1, none⟩ = some (.string ⟨d.toArray⟩) ∧ Below w1.heap.size w1 w7 := ⟨(HO6.out.grown hg7 (fun e => Nat.lt_irrefl _ (NE.out _ e.symm))).cell 0 _ rfl, (HO6.out.grown hg7 (fun e => Nat.lt_irrefl _ (NE.out _ e.symm))).cell 1 _ rfl, ho7.2⟩; clear ho7 hg7)
            | (go_at_fn g1; (refine (C1.out _ (LB.out _ HS4.out.2.drew)).mono ?_); rintro e w6 ⟨rfl, hb6⟩; have hq6 : Below w4.heap.size w4 w6 := ⟨hb6.os, hb6.tape, hb6.output, hb6.size, hb6.block⟩; have hq7 := hq6.alloc hq6.size (.cells #[.int .i64 z, .string ⟨X.toArray⟩] 82); have HS6 := Lib.hid (HS4.out.below hq7); have HO6 := Lib.hid (HO4.out.below hq7); have HLX := Lib.hid (lit_one w6 z X); clear hb6))
        go_wp2_with fail
        go_roundw
        case rel => exact ⟨k + 1, by omega, by go_num, by rw [HJ.out, if_neg HX.out]; exact HO7.out⟩
        case measure => simp [intOf]; omega
    · obtain rfl : k = os.length := by omega
      go_wp2_with fail
      go_ret
      exact ⟨_, rfl, HS.out.base H1.out⟩
end Go.Proofs.YteabkmelnoefiaaGreatDoor.Pr
