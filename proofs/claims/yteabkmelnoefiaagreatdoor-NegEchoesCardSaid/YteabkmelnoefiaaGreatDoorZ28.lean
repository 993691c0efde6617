/-
  Stage 15: contract of learning from an answer.
-/
import Derived.Test.YteabkmelnoefiaaGreatDoorZ26
namespace Go.Proofs.YteabkmelnoefiaaGreatDoor.Ne
open Go.RowKit
set_option maxRecDepth 100000
def zlk : Array Value := #[.int .i64 0, .int .i64 0, .int .i64 0, .bool false, .string ⟨#[]⟩, .int .i64 0]
/-- A link written cell by cell. -/
def filled (w : World) (X : Nat) (l : Pol.Lk) : World := (((((w.setCell ⟨X, 0, none⟩ (.int .i64 l.mru)).setCell ⟨X, 1, none⟩ (.int .i64 l.magic)).setCell ⟨X, 2, none⟩ (.int .i64 l.mrru)).setCell ⟨X, 3, none⟩ (.bool l.short)).setCell ⟨X, 4, none⟩ (.string ⟨l.disc.toArray⟩)).setCell ⟨X, 5, none⟩ (.int .i64 l.num)
theorem filled_below {w w5 : World} (h : Below w.heap.size w w5) (l : Pol.Lk) : Below w.heap.size w (filled w5 w.heap.size l) :=
  (((((h.setCell (Nat.le_refl _) _).setCell (Nat.le_refl _) _).setCell (Nat.le_refl _) _).setCell (Nat.le_refl _) _).setCell (Nat.le_refl _) _).setCell (Nat.le_refl _) _
theorem filled_link {w : World} {X : Nat} (h : Arr X w [.int .i64 0, .int .i64 0, .int .i64 0, .bool false, .string ⟨#[]⟩, .int .i64 0]) (l : Pol.Lk) : Pl.Lnk X (filled w X l) l :=
  Arr.set (Arr.set (Arr.set (Arr.set (Arr.set (Arr.set h 0 _) 1 _) 2 _) 3 _) 4 _) 5 _
set_option maxHeartbeats 6400000 in
theorem learn_at (B : Nat) (m : Mem) (c i : Int) (v : Value) (os : List Opt.Op) (d : List UInt8) (w : World) (h : Rg B w m) (hr : ReadsO w v os) (hl : os.length * 24 ≤ 140737488351232) (hd : ∀ o ∈ os, o.2.length ≤ 140737488351232) (l : Pol.Lk) (hj : Pol.learn Pl.nm m.own c os = (l, 0)) :
    Calls Tryz.prog 64 #[.pointer (some ⟨B, 0, none⟩), .agg (pcs (c, i, v, d)).toArray] w fun e w' => e = .returned (.tuple #[]) ∧ Rg B w' { m with own := l } ∧ Chg (One B) w w' := by
  obtain ⟨w1, hw1⟩ : ∃ w1, w1 = w.alloc (.cells (pcs (c, i, v, d)).toArray 36) := ⟨_, rfl⟩
  have HB : Hid (Below w.heap.size w w1) := Lib.hid (hw1 ▸ ((Below.refl w.heap.size w).alloc (Nat.le_refl _) _))
  have A1 : Hid (Arr w.heap.size w1 (pcs (c, i, v, d))) := Lib.hid (hw1 ▸ Arr.new w (pcs (c, i, v, d)) _)
  have R1 := Lib.hid (h.below HB.out)
  have HR := Lib.hid (hr.below HB.out)
  have LN : Hid (∀ W, ReadsO W v os → Calls Tryz.prog 92 #[.agg #[.int .i64 m.own.mru, .int .i64 m.own.magic, .int .i64 m.own.mrru, .bool m.own.short, .string ⟨m.own.disc.toArray⟩, .int .i64 m.own.num], .int .i64 c, v] W fun e w' => e = .returned (.tuple #[.agg #[.int .i64 l.mru, .int .i64 l.magic, .int .i64 l.mrru, .bool l.short, .string ⟨l.disc.toArray⟩, .int .i64 l.num], .int .i64 0]) ∧ Below W.heap.size W w') := Lib.hid fun W hr => by
    have := Pr.learn_any m.own c v os W hr hl hd
    rwa [show Pol.learn Pr.nm m.own c os = (l, 0) from hj] at this
  have zA := A1.out.lt
  have zB := R1.out.lt
  obtain ⟨pv, cv, _, _, ev, _⟩ := hr.at
  clear h hr hl hd hj
  subst ev
  have LNA := Lib.hid (LN.out _ (HR.out.below ((Below.refl _ w1).alloc (Nat.le_refl _) (.cells zlk 23)).drew))
  have LNB := Lib.hid (LN.out _ HR.out.drew)
  unfold zlk at LNA
  have SJ : Hid (∀ a : World, Below w1.heap.size w1 a → a.cell? ⟨w.heap.size, 0, none⟩ = some (.int .i64 c) ∧ a.cell? ⟨w.heap.size, 2, none⟩ = some (.slice pv os.length cv) ∧ a.cell? ⟨B, 3, none⟩ = some (.int .i64 m.own.mru) ∧ a.cell? ⟨B, 4, none⟩ = some (.int .i64 m.own.magic) ∧ a.cell? ⟨B, 5, none⟩ = some (.int .i64 m.own.mrru) ∧ a.cell? ⟨B, 6, none⟩ = some (.bool m.own.short) ∧ a.cell? ⟨B, 7, none⟩ = some (.string ⟨m.own.disc.toArray⟩) ∧ a.cell? ⟨B, 8, none⟩ = some (.int .i64 m.own.num)) := Lib.hid fun a hb => ⟨(A1.out.below hb).cell 0 _ rfl, (A1.out.below hb).cell 2 _ rfl, Arr.cell (R1.out.below hb) 3 _ rfl, Arr.cell (R1.out.below hb) 4 _ rfl, Arr.cell (R1.out.below hb) 5 _ rfl, Arr.cell (R1.out.below hb) 6 _ rfl, Arr.cell (R1.out.below hb) 7 _ rfl, Arr.cell (R1.out.below hb) 8 _ rfl⟩
  go_enter Tryz.func64, Tryz.ntmps64
  go_upto_region 1 with (fail)
  rw [← hw1]
  clear hw1
  go_region_held (fun a => a.cell? ⟨w.heap.size, 0, none⟩ = some (.int .i64 c) ∧ a.cell? ⟨w.heap.size, 2, none⟩ = some (.slice pv os.length cv) ∧ a.cell? ⟨B, 3, none⟩ = some (.int .i64 m.own.mru) ∧ a.cell? ⟨B, 4, none⟩ = some (.int .i64 m.own.magic) ∧ a.cell? ⟨B, 5, none⟩ = some (.int .i64 m.own.mrru) ∧ a.cell? ⟨B, 6, none⟩ = some (.bool m.own.short) ∧ a.cell? ⟨B, 7, none⟩ = some (.string ⟨m.own.disc.toArray⟩) ∧ a.cell? ⟨B, 8, none⟩ = some (.int .i64 m.own.num))
    (with_reducible (first | assumption | exact hS5 | exact SJ.out _ (Below.refl _ w1).drew | exact SJ.out _ ((Below.refl _ w1).alloc (Nat.le_refl _) _) | exact SJ.out _ ((Below.refl _ w1).alloc (Nat.le_refl _) _).drew | exact SJ.out _ (HB5.out.alloc HB5.out.size _) | exact SJ.out _ ((((((HB5.out.setCell (Nat.le_refl _) _).setCell (Nat.le_refl _) _).setCell (Nat.le_refl _) _).setCell (Nat.le_refl _) _).setCell (Nat.le_refl _) _).setCell (Nat.le_refl _) _)))
    (first
      | (go_at_call 92; (with_reducible refine LNB.out.mono ?_); rintro e w5 ⟨rfl, hb⟩; have hb5 : Below w1.heap.size w1 w5 := ⟨hb.os, hb.tape, hb.output, hb.size, hb.block⟩; have hS5 := SJ.out w5 hb5; have HB5 := Lib.hid hb5; clear hb hb5)
      | (go_at_call 92; (with_reducible refine LNA.out.mono ?_); rintro e w5 ⟨rfl, hb⟩; have hb5 : Below w1.heap.size w1 w5 := ((Below.refl w1.heap.size w1).alloc (Nat.le_refl _) _).drew.trans (hb.mono (by simp)); have hS5 := SJ.out w5 hb5; have HB5 := Lib.hid hb5; have Z5 := Lib.hid (Arr.below (w := (w1.alloc (.cells #[.int .i64 0, .int .i64 0, .int .i64 0, .bool false, .string ⟨#[]⟩, .int .i64 0] 23)).drew) (Arr.new w1 [.int .i64 0, .int .i64 0, .int .i64 0, .bool false, .string ⟨#[]⟩, .int .i64 0] 23) hb); have n0 := Arr.cell Z5.out 0 _ rfl; have n1 := Arr.cell Z5.out 1 _ rfl; have n2 := Arr.cell Z5.out 2 _ rfl; have n3 := Arr.cell Z5.out 3 _ rfl; have n4 := Arr.cell Z5.out 4 _ rfl; have n5 := Arr.cell Z5.out 5 _ rfl; have o0 := Arr.frozen Z5.out 0; have o1 := Arr.frozen Z5.out 1; have o2 := Arr.frozen Z5.out 2; have o3 := Arr.frozen Z5.out 3; have o4 := Arr.frozen Z5.out 4; have o5 := Arr.frozen Z5.out 5; have zZ := Z5.out.lt; clear hb hb5))
  · have B6 : Hid (Below w1.heap.size w1 (w5.alloc (.cells (Pl.lcs l).toArray 23))) := Lib.hid (HB5.out.alloc HB5.out.size _)
    have L6 : Hid (Pl.Lnk w5.heap.size (w5.alloc (.cells (Pl.lcs l).toArray 23)) l) := Lib.hid (Pl.Lnk.new w5 l)
    obtain ⟨W6, hW6⟩ : ∃ W6, W6 = w5.alloc (.cells (Pl.lcs l).toArray 23) := ⟨_, rfl⟩
    show Exit.then _ _ _ _ (w5.alloc (.cells (Pl.lcs l).toArray 23))
    rw [← hW6] at B6 L6 ⊢
    clear hW6
    have R6 := Lib.hid (R1.out.below B6.out)
    obtain ⟨v7, hs7, hr7, hg7⟩ := R6.out.keepOwn l
    have HS7 := Lib.hid hs7
    have HR7 := Lib.hid hr7
    have HC7 : Hid (Chg (One B) w v7) := Lib.hid ((Chg.of_below (bel2 HB.out B6.out)).trans (Chg.of_grown hg7 fun k e => .inr (Option.some.inj e).symm))
    clear hs7 hr7 hg7
    go_wp2_with (first | (refine Pl.step_link rfl _ rfl w5.heap.size l rfl L6.out ?_) | (refine wpList_store rfl _ _ _ rfl ⟨B, 3, none⟩ _ v7 rfl rfl HS7.out ?_))
    go_end0
    exact ⟨rfl, HR7.out, HC7.out⟩
  · have B6 : Hid (Below w1.heap.size w1 (filled w5 w1.heap.size l)) := Lib.hid (filled_below HB5.out l)
    have L6 : Hid (Pl.Lnk w1.heap.size (filled w5 w1.heap.size l) l) := Lib.hid (filled_link Z5.out l)
    clear n0 n1 n2 n3 n4 n5 o0 o1 o2 o3 o4 o5
    obtain ⟨W6, hW6⟩ : ∃ W6, W6 = filled w5 w1.heap.size l := ⟨_, rfl⟩
    show Exit.then _ _ _ _ (filled w5 w1.heap.size l)
    rw [← hW6] at B6 L6 ⊢
    clear hW6
    have R6 := Lib.hid (R1.out.below B6.out)
    obtain ⟨v7, hs7, hr7, hg7⟩ := R6.out.keepOwn l
    have HS7 := Lib.hid hs7
    have HR7 := Lib.hid hr7
    have HC7 : Hid (Chg (One B) w v7) := Lib.hid ((Chg.of_below (bel2 HB.out B6.out)).trans (Chg.of_grown hg7 fun k e => .inr (Option.some.inj e).symm))
    clear hs7 hr7 hg7
    go_wp2_with (first | (refine Pl.step_link rfl _ rfl w1.heap.size l rfl L6.out ?_) | (refine wpList_store rfl _ _ _ rfl ⟨B, 3, none⟩ _ v7 rfl rfl HS7.out ?_))
    go_end0
    exact ⟨rfl, HR7.out, HC7.out⟩
end Go.Proofs.YteabkmelnoefiaaGreatDoor.Ne
