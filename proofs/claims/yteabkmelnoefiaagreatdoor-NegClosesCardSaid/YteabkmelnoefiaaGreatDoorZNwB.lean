/-
  Stage 15: the laws of two sides, where there is nothing to be said.
  Stage 15's law of a side that closes, as its frame takes it.
-/
import Derived.Test.YteabkmelnoefiaaGreatDoorZ29
import Derived.Test.YteabkmelnoefiaaGreatDoorZ02
import Derived.Test.YteabkmelnoefiaaGreatDoorZNwM
import Derived.Test.YteabkmelnoefiaaGreatDoorZ09
import Derived.Deep.DeepCutAuto
namespace Go.Proofs.YteabkmelnoefiaaGreatDoor.Ne
open Go.RowKit
set_option maxRecDepth 100000
set_option maxHeartbeats 6400000 in
theorem closes_early (a b : Pol.Lk) (h : ¬ (Pol.may a = true ∧ Pol.may b = true ∧ ¬ (a.magic ≠ 0 ∧ a.magic = b.magic))) (w : World) (ST : U.StepOk w) :
    Calls Tryz.prog 6 #[.agg (Pl.lcs a).toArray, .agg (Pl.lcs b).toArray] w fun e w' => e = .returned (.bool true) ∧ Below w.heap.size w w' := by
  obtain ⟨w1, hw1⟩ : ∃ w1, w1 = (w.alloc (.cells (Pl.lcs a).toArray 23)).alloc (.cells (Pl.lcs b).toArray 23) := ⟨_, rfl⟩
  have HB : Hid (Below w.heap.size w w1) := Lib.hid (hw1 ▸ ((Below.refl w.heap.size w).alloc (Nat.le_refl _) _).alloc (by simp) _)
  have KA : Hid (Pl.Lnk w.heap.size w1 a) := Lib.hid (hw1 ▸ (Pl.Lnk.new w a).below ((Below.refl _ _).alloc (Nat.le_refl _) _))
  have KB : Hid (Pl.Lnk (w.heap.size + 1) w1 b) := Lib.hid (hw1 ▸ Pl.Lnk.new_at (w.alloc (.cells (Pl.lcs a).toArray 23)) b (w.heap.size + 1) (by simp))
  have AW := Lib.hid (awake_any w1 (U.StepOk.later ST HB.out))
  have MA : Hid (∀ W, Calls Tryz.prog 28 #[.agg #[.int .i64 a.mru, .int .i64 a.magic, .int .i64 a.mrru, .bool a.short, .string ⟨a.disc.toArray⟩, .int .i64 a.num]] W fun e w' => e = .returned (.bool (Pol.may a)) ∧ Below W.heap.size W w') := Lib.hid fun W => Pl.may_any a W
  have MB : Hid (∀ W, Calls Tryz.prog 28 #[.agg #[.int .i64 b.mru, .int .i64 b.magic, .int .i64 b.mrru, .bool b.short, .string ⟨b.disc.toArray⟩, .int .i64 b.num]] W fun e w' => e = .returned (.bool (Pol.may b)) ∧ Below W.heap.size W w') := Lib.hid fun W => Pl.may_any b W
  have hc : Pol.may a = false ∨ (Pol.may a = true ∧ Pol.may b = false) ∨ (Pol.may a = true ∧ Pol.may b = true ∧ (a.magic != 0) = true ∧ (a.magic == b.magic) = true) := by
    cases ha : Pol.may a
    · exact .inl rfl
    · cases hb : Pol.may b
      · exact .inr (.inl ⟨rfl, rfl⟩)
      · refine .inr (.inr ⟨rfl, rfl, ?_⟩)
        rw [ha, hb] at h
        have : a.magic ≠ 0 ∧ a.magic = b.magic := Classical.byContradiction fun k => h ⟨rfl, rfl, k⟩
        exact ⟨by simpa using this.1, by simpa using this.2⟩
  clear ST h
  rcases hc with ha | ⟨ha, hb⟩ | ⟨ha, hb, q1, q2⟩
  · rw [ha] at MA
    clear ha MB
    go_enter Tryz.func6, Tryz.ntmps6
    go_upto_region 1 with (fail)
    rw [← hw1]
    clear hw1
    go_wp2_with (first
      | (go_at_call 15; (refine AW.out.mono ?_); rintro e w2 ⟨rfl, hb⟩; have B2 := Lib.hid (bel2 HB.out hb); have KA2 := Lib.hid (KA.out.below hb); have kA0 := Arr.cell KA2.out 0 _ rfl; have kA1 := Arr.cell KA2.out 1 _ rfl; have kA2 := Arr.cell KA2.out 2 _ rfl; have kA3 := Arr.cell KA2.out 3 _ rfl; have kA4 := Arr.cell KA2.out 4 _ rfl; have kA5 := Arr.cell KA2.out 5 _ rfl; have zA := KA2.out.lt; clear hb)
      | (go_at_call 28; (refine (MA.out _).mono ?_); rintro e w3 ⟨rfl, hb⟩; have B3 := Lib.hid (bel2 B2.out hb); clear hb))
    go_ret
    exact ⟨rfl, B3.out⟩
  · rw [ha] at MA
    rw [hb] at MB
    clear ha hb
    go_enter Tryz.func6, Tryz.ntmps6
    go_upto_region 1 with (fail)
    rw [← hw1]
    clear hw1
    go_wp2_with (first
      | (go_at_call 15; (refine AW.out.mono ?_); rintro e w2 ⟨rfl, hb⟩; have B2 := Lib.hid (bel2 HB.out hb); have KA2 := Lib.hid (KA.out.below hb); have KB2 := Lib.hid (KB.out.below hb); have kA0 := Arr.cell KA2.out 0 _ rfl; have kA1 := Arr.cell KA2.out 1 _ rfl; have kA2 := Arr.cell KA2.out 2 _ rfl; have kA3 := Arr.cell KA2.out 3 _ rfl; have kA4 := Arr.cell KA2.out 4 _ rfl; have kA5 := Arr.cell KA2.out 5 _ rfl; have zA := KA2.out.lt; clear hb)
      | (go_at_call 28; (with_reducible refine (MA.out w2).mono ?_); rintro e w3 ⟨rfl, hb⟩; have B3 := Lib.hid (bel2 B2.out hb); have KB3 := Lib.hid (KB2.out.below hb); have kB0 := Arr.cell KB3.out 0 _ rfl; have kB1 := Arr.cell KB3.out 1 _ rfl; have kB2 := Arr.cell KB3.out 2 _ rfl; have kB3 := Arr.cell KB3.out 3 _ rfl; have kB4 := Arr.cell KB3.out 4 _ rfl; have kB5 := Arr.cell KB3.out 5 _ rfl; have zB := KB3.out.lt; clear hb)
      | (go_at_call 28; (refine (MB.out _).mono ?_); rintro e w4 ⟨rfl, hb⟩; have B4 := Lib.hid (bel2 B3.out hb); clear hb))
    go_ret
    exact ⟨rfl, B4.out⟩
  · rw [ha] at MA
    rw [hb] at MB
    clear ha hb
    go_enter Tryz.func6, Tryz.ntmps6
    go_upto_region 1 with (fail)
    rw [← hw1]
    clear hw1
    go_wp2_with (first
      | (go_at_call 15; (refine AW.out.mono ?_); rintro e w2 ⟨rfl, hb⟩; have B2 := Lib.hid (bel2 HB.out hb); have KA2 := Lib.hid (KA.out.below hb); have KB2 := Lib.hid (KB.out.below hb); have kA0 := Arr.cell KA2.out 0 _ rfl; have kA1 := Arr.cell KA2.out 1 _ rfl; have kA2 := Arr.cell KA2.out 2 _ rfl; have kA3 := Arr.cell KA2.out 3 _ rfl; have kA4 := Arr.cell KA2.out 4 _ rfl; have kA5 := Arr.cell KA2.out 5 _ rfl; have zA := KA2.out.lt; clear hb)
      | (go_at_call 28; (with_reducible refine (MA.out w2).mono ?_); rintro e w3 ⟨rfl, hb⟩; have B3 := Lib.hid (bel2 B2.out hb); have KA3 := Lib.hid (KA2.out.below hb); have KB3 := Lib.hid (KB2.out.below hb); have kB0 := Arr.cell KB3.out 0 _ rfl; have kB1 := Arr.cell KB3.out 1 _ rfl; have kB2 := Arr.cell KB3.out 2 _ rfl; have kB3 := Arr.cell KB3.out 3 _ rfl; have kB4 := Arr.cell KB3.out 4 _ rfl; have kB5 := Arr.cell KB3.out 5 _ rfl; have zB := KB3.out.lt; clear hb)
      | (go_at_call 28; (refine (MB.out _).mono ?_); rintro e w4 ⟨rfl, hb⟩; have B4 := Lib.hid (bel2 B3.out hb); have m1 := (KA3.out.below hb).cell 1 _ rfl; have m2 := (KB3.out.below hb).cell 1 _ rfl; have z1 := (KA3.out.below hb).lt; have z2 := (KB3.out.below hb).lt; clear hb))
    go_ret
    exact ⟨rfl, B4.out⟩
end Go.Proofs.YteabkmelnoefiaaGreatDoor.Ne
namespace Go.Proofs.YteabkmelnoefiaaGreatDoor.Ne
open Go.RowKit
theorem walk_closes (a b : Pol.Lk) (w : World) (ST : U.StepOk w) : Calls Tryz.prog 6 #[Pl.lv a, Pl.lv b] w fun e w' => e = .returned (.bool true) ∧ Below w.heap.size w w' := by
  by_cases h : Pol.may a = true ∧ Pol.may b = true ∧ ¬ (a.magic ≠ 0 ∧ a.magic = b.magic)
  · exact closes_good a b h.1 h.2.1 h.2.2 w ST
  · exact closes_early a b h w ST
end Go.Proofs.YteabkmelnoefiaaGreatDoor.Ne
namespace Go.Proofs.YteabkmelnoefiaaGreatDoor.U
open Go.RowKit
theorem law_negCloses (a b : Pol.Lk) (w : World) (T : Tab w) :
    Calls Tryz.prog 6 #[Pl.lv a, Pl.lv b] w fun e w' => e = .returned (.bool true) ∧ Below w.heap.size w w' := Ne.walk_closes a b w (step_any T)
end Go.Proofs.YteabkmelnoefiaaGreatDoor.U
