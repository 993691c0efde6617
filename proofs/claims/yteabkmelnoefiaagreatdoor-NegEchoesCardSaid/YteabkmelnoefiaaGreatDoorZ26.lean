/-
  Stage 15: contracts of judging what is asked, of learning from an answer.
-/
import Derived.Test.YteabkmelnoefiaaGreatDoorZ25
import Derived.Test.YteabkmelnoefiaaGreatDoorZ20
import Derived.Deep.RegionHeldLaw
namespace Go.Proofs.YteabkmelnoefiaaGreatDoor.Ne
open Go.RowKit
set_option maxRecDepth 100000
/-- A packet in a block of its own: what a region reads of it. -/
theorem verdict_cases (v : Int) : (v = 0 ∧ Ng.verdict v = 2) ∨ (v ≠ 0 ∧ v = 1 ∧ Ng.verdict v = 3) ∨ (v ≠ 0 ∧ v ≠ 1 ∧ Ng.verdict v = 4) := by
  unfold Ng.verdict
  by_cases h0 : v = 0
  · simp [h0]
  · by_cases h1 : v = 1
    · simp [h1]
    · simp [h0, h1]
theorem infoPs : (Tryz.prog.info? 36).map (·.size) = some 4 := by kernel_rfl
/-- A verdict's packet written into the result. -/
theorem judge_end {w w1 w5 : World} {pu : Option Addr} {cu : Nat} {V2 : List Opt.Op} (HB : Below w.heap.size w w1) (hb5 : Below w1.heap.size w1 w5) (ho : OwnsO w1.drew w5 (.slice pu V2.length cu) V2)
    (hz : Arr (w.heap.size + 1) w1 (pcs (0, 0, .slice none 0 0, []))) (c i : Int) :
    ∃ v6, (storeVar 36 ⟨w.heap.size + 1, 0, none⟩ (.agg #[.int .i64 c, .int .i64 i, .slice pu V2.length cu, .string ⟨#[]⟩])).run Tryz.prog w5.drew = .ok () v6 ∧ Arr (w.heap.size + 1) v6 [.int .i64 c, .int .i64 i, .slice pu V2.length cu, .string ⟨#[]⟩] ∧ OwnsO w v6 (.slice pu V2.length cu) V2 := by
  have h5 : Arr (w.heap.size + 1) w5.drew (pcs (0, 0, .slice none 0 0, [])) := hz.below hb5.drew
  obtain ⟨v6, h1, h2, h3⟩ := h5.store (ds := [.int .i64 c, .int .i64 i, .slice pu V2.length cu, .string ⟨#[]⟩]) 36 infoPs rfl (by intro v hv; simp at hv; rcases hv with rfl | rfl | rfl | rfl <;> rfl)
  have hlt := hz.lt
  have hw : Below w.heap.size w w5.drew := bel2 HB hb5.drew
  refine ⟨v6, h1, h2, ?_, ?_⟩
  · refine World.ownsRow.kept (w := w5.drew) (row := some (w.heap.size + 1)) ((OwnsO.base ho HB.drew).1) h3 (.inr fun e => ?_)
    have := (ho.1.lt _ e).1
    have e2 : w1.drew.heap.size = w1.heap.size := rfl
    omega
  · exact below_of_grown hw h3 (Nat.le_succ _) rfl
set_option maxHeartbeats 1600000 in
theorem judge_any (B : Nat) (m : Mem) (c i : Int) (v : Value) (os : List Opt.Op) (d : List UInt8) (w : World) (h : Rg B w m) (hr : ReadsO w v os) (hl : os.length ≤ 1000000) :
    Calls Tryz.prog 61 #[.pointer (some ⟨B, 0, none⟩), .agg (pcs (c, i, v, d)).toArray] w fun e w' => ∃ u, e = .returned (.tuple #[.int .i64 (if (Pol.judge Pl.nm m.own os).1 = 0 then 6 else 7), .agg (pcs (Ng.verdict (Pol.judge Pl.nm m.own os).1, i, u, [])).toArray]) ∧ OwnsO w w' u (Pol.judge Pl.nm m.own os).2.1 := by
  obtain ⟨w1, hw1⟩ : ∃ w1, w1 = (w.alloc (.cells (pcs (c, i, v, d)).toArray 36)).alloc (.cells #[.int .i64 0, .int .i64 0, .slice none 0 0, .string ⟨#[]⟩] 36) := ⟨_, rfl⟩
  have HB : Hid (Below w.heap.size w w1) := Lib.hid (hw1 ▸ ((Below.refl w.heap.size w).alloc (Nat.le_refl _) _).alloc (by simp) _)
  have A1 : Hid (Arr w.heap.size w1 (pcs (c, i, v, d))) := Lib.hid (hw1 ▸ (Arr.new w (pcs (c, i, v, d)) _).below ((Below.refl _ _).alloc (Nat.le_refl _) _))
  have Z1 : Hid (Arr (w.heap.size + 1) w1 (pcs (0, 0, .slice none 0 0, []))) := Lib.hid (by
    have := Arr.new (w.alloc (.cells (pcs (c, i, v, d)).toArray 36)) (pcs (0, 0, .slice none 0 0, [])) 36
    rw [hw1]
    exact this.at (by simp))
  have R1 := Lib.hid (h.below HB.out)
  have JG := Lib.hid fun W hr => Pr.judge_own m.own v os W hr hl
  have HR := Lib.hid (hr.below HB.out)
  have zA := A1.out.lt
  have zB := R1.out.lt
  obtain ⟨pv, cv, _, _, ev, _⟩ := hr.at
  obtain ⟨V, hV⟩ : ∃ V, V = Pol.judge Pl.nm m.own os := ⟨_, rfl⟩
  have JG : Hid (∀ W, ReadsO W v os → Calls Tryz.prog 90 #[.agg (Pl.lcs m.own).toArray, v] W fun e w' => ∃ u, e = .returned (.tuple #[.int .i64 V.1, u, .int .i64 V.2.2]) ∧ OwnsO W w' u V.2.1) := Lib.hid (by rw [hV]; exact JG.out)
  rw [← hV]
  clear h hr hl hV
  subst ev
  have SJ : Hid (∀ a : World, Below w1.heap.size w1 a → a.cell? ⟨w.heap.size, 2, none⟩ = some (.slice pv os.length cv) ∧ a.cell? ⟨B, 3, none⟩ = some (.int .i64 m.own.mru) ∧ a.cell? ⟨B, 4, none⟩ = some (.int .i64 m.own.magic) ∧ a.cell? ⟨B, 5, none⟩ = some (.int .i64 m.own.mrru) ∧ a.cell? ⟨B, 6, none⟩ = some (.bool m.own.short) ∧ a.cell? ⟨B, 7, none⟩ = some (.string ⟨m.own.disc.toArray⟩) ∧ a.cell? ⟨B, 8, none⟩ = some (.int .i64 m.own.num)) := Lib.hid fun a hb => ⟨(A1.out.below hb).cell 2 _ rfl, Arr.cell (R1.out.below hb) 3 _ rfl, Arr.cell (R1.out.below hb) 4 _ rfl, Arr.cell (R1.out.below hb) 5 _ rfl, Arr.cell (R1.out.below hb) 6 _ rfl, Arr.cell (R1.out.below hb) 7 _ rfl, Arr.cell (R1.out.below hb) 8 _ rfl⟩
  obtain ⟨V1, V2, V3⟩ := V
  dsimp only at JG ⊢
  have VC := verdict_cases V1
  rcases VC with ⟨h0, e⟩ | ⟨h0, h1, e⟩ | ⟨h0, h1, e⟩
  · subst h0
    rw [e, if_pos rfl]
    clear e
    go_enter Tryz.func61, Tryz.ntmps61
    go_upto_region 1 with (fail)
    rw [← hw1]
    clear hw1
    go_region_held (fun a => a.cell? ⟨w.heap.size, 2, none⟩ = some (.slice pv os.length cv) ∧ a.cell? ⟨B, 3, none⟩ = some (.int .i64 m.own.mru) ∧ a.cell? ⟨B, 4, none⟩ = some (.int .i64 m.own.magic) ∧ a.cell? ⟨B, 5, none⟩ = some (.int .i64 m.own.mrru) ∧ a.cell? ⟨B, 6, none⟩ = some (.bool m.own.short) ∧ a.cell? ⟨B, 7, none⟩ = some (.string ⟨m.own.disc.toArray⟩) ∧ a.cell? ⟨B, 8, none⟩ = some (.int .i64 m.own.num)) (first | assumption | exact SJ.out _ (Below.refl _ w1).drew | exact hS5) (first | (go_at_call 90; (refine (JG.out _ HR.out.drew).mono ?_); rintro e w5 ⟨u, rfl, ho⟩; obtain ⟨pu, cu, hu⟩ := ho.form2; subst hu; have hb5 : Below w1.heap.size w1 w5 := ⟨ho.2.os, ho.2.tape, ho.2.output, ho.2.size, ho.2.block⟩; have hS5 := SJ.out w5 hb5; have HB5 := Lib.hid hb5; have HO5 := Lib.hid ho; clear ho hb5))
    have k1 := (A1.out.below HB5.out).cell 1 _ rfl
    have zC := (A1.out.below HB5.out).lt
    have zD := (Z1.out.below HB5.out).lt
    have HW := Lib.hid (judge_end HB.out HB5.out HO5.out Z1.out 2 i)
    obtain ⟨v6, hs6, hr6, ho6⟩ := HW.out
    have HS6 := Lib.hid hs6
    have HO6 := Lib.hid ho6
    have m0 := hr6.cell 0 _ rfl
    have m1 := hr6.cell 1 _ rfl
    have m2 := hr6.cell 2 _ rfl
    have m3 := hr6.cell 3 _ rfl
    clear hs6 hr6 ho6
    go_wp2_with fail
    go_still_tail 5, (by kernel_rfl)
    change wpList _ _ _ _ _ (World.drew _)
    go_wp2_with (refine wpList_store rfl _ _ _ rfl ⟨w.heap.size + 1, 0, none⟩ _ v6 rfl rfl HS6.out ?_)
    exact bodyPost_ret (v := .tuple #[.int .i64 6, .agg #[.int .i64 2, .int .i64 i, .slice pu V2.length cu, .string ⟨#[]⟩]]) (by simp [results, Tryz.results61, go_sem, m0, m1, m2, m3]) rfl ⟨_, rfl, HO6.out⟩
  · subst h1
    rw [e, if_neg (by decide)]
    clear e h0
    go_enter Tryz.func61, Tryz.ntmps61
    go_upto_region 1 with (fail)
    rw [← hw1]
    clear hw1
    go_region_held (fun a => a.cell? ⟨w.heap.size, 2, none⟩ = some (.slice pv os.length cv) ∧ a.cell? ⟨B, 3, none⟩ = some (.int .i64 m.own.mru) ∧ a.cell? ⟨B, 4, none⟩ = some (.int .i64 m.own.magic) ∧ a.cell? ⟨B, 5, none⟩ = some (.int .i64 m.own.mrru) ∧ a.cell? ⟨B, 6, none⟩ = some (.bool m.own.short) ∧ a.cell? ⟨B, 7, none⟩ = some (.string ⟨m.own.disc.toArray⟩) ∧ a.cell? ⟨B, 8, none⟩ = some (.int .i64 m.own.num)) (first | assumption | exact SJ.out _ (Below.refl _ w1).drew | exact hS5) (first | (go_at_call 90; (refine (JG.out _ HR.out.drew).mono ?_); rintro e w5 ⟨u, rfl, ho⟩; obtain ⟨pu, cu, hu⟩ := ho.form2; subst hu; have hb5 : Below w1.heap.size w1 w5 := ⟨ho.2.os, ho.2.tape, ho.2.output, ho.2.size, ho.2.block⟩; have hS5 := SJ.out w5 hb5; have HB5 := Lib.hid hb5; have HO5 := Lib.hid ho; clear ho hb5))
    have k1 := (A1.out.below HB5.out).cell 1 _ rfl
    have zC := (A1.out.below HB5.out).lt
    have zD := (Z1.out.below HB5.out).lt
    have HW := Lib.hid (judge_end HB.out HB5.out HO5.out Z1.out 3 i)
    obtain ⟨v6, hs6, hr6, ho6⟩ := HW.out
    have HS6 := Lib.hid hs6
    have HO6 := Lib.hid ho6
    have m0 := hr6.cell 0 _ rfl
    have m1 := hr6.cell 1 _ rfl
    have m2 := hr6.cell 2 _ rfl
    have m3 := hr6.cell 3 _ rfl
    clear hs6 hr6 ho6
    go_wp2_with fail
    go_still_tail 5, (by kernel_rfl)
    change wpList _ _ _ _ _ (World.drew _)
    go_wp2_with (refine wpList_store rfl _ _ _ rfl ⟨w.heap.size + 1, 0, none⟩ _ v6 rfl rfl HS6.out ?_)
    exact bodyPost_ret (v := .tuple #[.int .i64 7, .agg #[.int .i64 3, .int .i64 i, .slice pu V2.length cu, .string ⟨#[]⟩]]) (by simp [results, Tryz.results61, go_sem, m0, m1, m2, m3]) rfl ⟨_, rfl, HO6.out⟩
  · have q0 : (V1 == 0) = false := by simpa using h0
    have q1 : (V1 == 1) = false := by simpa using h1
    rw [e, if_neg h0]
    clear e h0 h1
    go_enter Tryz.func61, Tryz.ntmps61
    go_upto_region 1 with (fail)
    rw [← hw1]
    clear hw1
    go_region_held (fun a => a.cell? ⟨w.heap.size, 2, none⟩ = some (.slice pv os.length cv) ∧ a.cell? ⟨B, 3, none⟩ = some (.int .i64 m.own.mru) ∧ a.cell? ⟨B, 4, none⟩ = some (.int .i64 m.own.magic) ∧ a.cell? ⟨B, 5, none⟩ = some (.int .i64 m.own.mrru) ∧ a.cell? ⟨B, 6, none⟩ = some (.bool m.own.short) ∧ a.cell? ⟨B, 7, none⟩ = some (.string ⟨m.own.disc.toArray⟩) ∧ a.cell? ⟨B, 8, none⟩ = some (.int .i64 m.own.num)) (first | assumption | exact SJ.out _ (Below.refl _ w1).drew | exact hS5) (first | (go_at_call 90; (refine (JG.out _ HR.out.drew).mono ?_); rintro e w5 ⟨u, rfl, ho⟩; obtain ⟨pu, cu, hu⟩ := ho.form2; subst hu; have hb5 : Below w1.heap.size w1 w5 := ⟨ho.2.os, ho.2.tape, ho.2.output, ho.2.size, ho.2.block⟩; have hS5 := SJ.out w5 hb5; have HB5 := Lib.hid hb5; have HO5 := Lib.hid ho; clear ho hb5))
    have k1 := (A1.out.below HB5.out).cell 1 _ rfl
    have zC := (A1.out.below HB5.out).lt
    have zD := (Z1.out.below HB5.out).lt
    have HW := Lib.hid (judge_end HB.out HB5.out HO5.out Z1.out 4 i)
    obtain ⟨v6, hs6, hr6, ho6⟩ := HW.out
    have HS6 := Lib.hid hs6
    have HO6 := Lib.hid ho6
    have m0 := hr6.cell 0 _ rfl
    have m1 := hr6.cell 1 _ rfl
    have m2 := hr6.cell 2 _ rfl
    have m3 := hr6.cell 3 _ rfl
    clear hs6 hr6 ho6
    go_wp2_with fail
    go_still_tail 5, (by kernel_rfl)
    change wpList _ _ _ _ _ (World.drew _)
    go_wp2_with (refine wpList_store rfl _ _ _ rfl ⟨w.heap.size + 1, 0, none⟩ _ v6 rfl rfl HS6.out ?_)
    exact bodyPost_ret (v := .tuple #[.int .i64 7, .agg #[.int .i64 4, .int .i64 i, .slice pu V2.length cu, .string ⟨#[]⟩]]) (by simp [results, Tryz.results61, go_sem, m0, m1, m2, m3]) rfl ⟨_, rfl, HO6.out⟩
end Go.Proofs.YteabkmelnoefiaaGreatDoor.Ne
