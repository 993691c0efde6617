/-
  Contracts of a row of timers: how many, which of two comes first, two change places.
-/
import Derived.Test.YthbbeiflkiihdaaMach
import Derived.Deep.QuietTactic
import Derived.BigQuiet
import Derived.BigRegion
import Derived.RegionTactic
namespace Go.Proofs.Ythbbeiflkiihdaa.Y
open Go.RowKit
theorem len_any (p : Option Addr) (n cap : Nat) (w : World) : Calls Try.prog 18 #[.slice p n cap] w fun e w' => e = .returned (.int .i64 (n : Int)) ∧ w' = w := by
  go_enter Try.func18, Try.ntmps18
  go_wp2_with fail
  go_ret
  exact ⟨rfl, rfl⟩
set_option maxHeartbeats 800000 in
theorem less_walk (G n cap i j oi oj : Nat) (x1 x2 y1 y2 : Int) (w : World)
    (hi : ∀ W : World, (Instr.indexAt 48 (.slice (some ⟨G, 0, none⟩) n cap) (.int .i64 (i : Int))).run Try.prog W = .ok (.pointer (some ⟨G, oi, none⟩)) W)
    (hj : ∀ W : World, (Instr.indexAt 48 (.slice (some ⟨G, 0, none⟩) n cap) (.int .i64 (j : Int))).run Try.prog W = .ok (.pointer (some ⟨G, oj, none⟩)) W)
    (c1 : w.cell? ⟨G, oi, none⟩ = some (.int .i64 x1)) (c2 : w.cell? ⟨G, oi + 1, none⟩ = some (.int .i64 x2)) (d1 : w.cell? ⟨G, oj, none⟩ = some (.int .i64 y1)) (d2 : w.cell? ⟨G, oj + 1, none⟩ = some (.int .i64 y2)) :
    Calls Try.prog 47 #[.slice (some ⟨G, 0, none⟩) n cap, .int .i64 (i : Int), .int .i64 (j : Int)] w fun e w' => e = .returned (.bool (decide (x2 < y2 ∨ (x2 = y2 ∧ x1 < y1)))) ∧ Below w.heap.size w w' := by
  by_cases h : x2 = y2
  · subst h
    have e : decide (x2 < x2 ∨ (x2 = x2 ∧ x1 < y1)) = decide (x1 < y1) := by rw [decide_eq_decide]; omega
    have q : (x2 != x2) = false := by simp
    rw [e]
    clear e
    go_enter Try.func47, Try.ntmps47
    go_wp2_with fail
    go_quiet (fail)
    go_wp2_with fail
    go_quiet (fail)
    go_wp2_with fail
    go_ret
    exact ⟨rfl, below_drewN (below_drewN (Below.refl _ _) _) _⟩
  · have e : decide (x2 < y2 ∨ (x2 = y2 ∧ x1 < y1)) = decide (x2 < y2) := by rw [decide_eq_decide]; omega
    have q : (x2 != y2) = true := by simpa using h
    rw [e]
    clear e h
    go_enter Try.func47, Try.ntmps47
    go_wp2_with fail
    go_quiet (fail)
    go_wp2_with fail
    go_quiet (fail)
    go_wp2_with fail
    go_ret
    exact ⟨rfl, below_drewN (below_drewN (Below.refl _ _) _) _⟩
theorem less_any {b : Nat} {v : Value} {A : List Tim.T} {w : World} (h : RowT b w v A) (i j : Nat) (hi : i < A.length) (hj : j < A.length) :
    Calls Try.prog 47 #[v, .int .i64 (i : Int), .int .i64 (j : Int)] w fun e w' => e = .returned (.bool (decide (Tim.tl (Tim.g A i) (Tim.g A j)))) ∧ Below w.heap.size w w' := by
  obtain ⟨G, cap, rfl, _⟩ := h.full (by omega)
  obtain ⟨c1, c2⟩ := h.cells i hi
  obtain ⟨d1, d2⟩ := h.cells j hj
  exact less_walk G A.length cap i j (2 * i) (2 * j) _ _ _ _ w (indexT G _ cap i hi) (indexT G _ cap j hj) c1 c2 d1 d2
set_option maxHeartbeats 1600000 in
theorem swap_two (G n cap i j oi oj : Nat) (x1 x2 y1 y2 : Int) (w : World) (ne1 : oi ≠ oj) (ne2 : oi ≠ oj + 1) (ne3 : oi + 1 ≠ oj)
    (hi : ∀ W : World, (Instr.indexAt 48 (.slice (some ⟨G, 0, none⟩) n cap) (.int .i64 (i : Int))).run Try.prog W = .ok (.pointer (some ⟨G, oi, none⟩)) W)
    (hj : ∀ W : World, (Instr.indexAt 48 (.slice (some ⟨G, 0, none⟩) n cap) (.int .i64 (j : Int))).run Try.prog W = .ok (.pointer (some ⟨G, oj, none⟩)) W)
    (fz : ∀ o, w.frozen? ⟨G, o, none⟩ = false)
    (c1 : w.cell? ⟨G, oi, none⟩ = some (.int .i64 x1)) (c2 : w.cell? ⟨G, oi + 1, none⟩ = some (.int .i64 x2)) (d1 : w.cell? ⟨G, oj, none⟩ = some (.int .i64 y1)) (d2 : w.cell? ⟨G, oj + 1, none⟩ = some (.int .i64 y2)) :
    Calls Try.prog 48 #[.slice (some ⟨G, 0, none⟩) n cap, .int .i64 (i : Int), .int .i64 (j : Int)] w fun e w' => e = .returned (.tuple #[]) ∧
      w' = (((((w.setCell ⟨G, oi, none⟩ (.int .i64 y1)).setCell ⟨G, oi + 1, none⟩ (.int .i64 y2)).setCell ⟨G, oj, none⟩ (.int .i64 x1)).setCell ⟨G, oj + 1, none⟩ (.int .i64 x2))).drew := by
  go_enter Try.func48, Try.ntmps48
  go_wp2_with fail
  go_region
  all_goals
    go_end0
    exact ⟨rfl, rfl⟩
set_option maxHeartbeats 1600000 in
theorem swap_one (G n cap i oi : Nat) (x1 x2 : Int) (w : World)
    (hi : ∀ W : World, (Instr.indexAt 48 (.slice (some ⟨G, 0, none⟩) n cap) (.int .i64 (i : Int))).run Try.prog W = .ok (.pointer (some ⟨G, oi, none⟩)) W)
    (fz : ∀ o, w.frozen? ⟨G, o, none⟩ = false)
    (c1 : w.cell? ⟨G, oi, none⟩ = some (.int .i64 x1)) (c2 : w.cell? ⟨G, oi + 1, none⟩ = some (.int .i64 x2)) :
    Calls Try.prog 48 #[.slice (some ⟨G, 0, none⟩) n cap, .int .i64 (i : Int), .int .i64 (i : Int)] w fun e w' => e = .returned (.tuple #[]) ∧
      w' = (((((w.setCell ⟨G, oi, none⟩ (.int .i64 x1)).setCell ⟨G, oi + 1, none⟩ (.int .i64 x2)).setCell ⟨G, oi, none⟩ (.int .i64 x1)).setCell ⟨G, oi + 1, none⟩ (.int .i64 x2))).drew := by
  go_enter Try.func48, Try.ntmps48
  go_wp2_with fail
  go_region
  all_goals
    go_end0
    exact ⟨rfl, rfl⟩
theorem gtrans {a b c : World} {r : Option Nat} (h : a.grownBy b r) (k : b.grownBy c r) : a.grownBy c r :=
  ⟨k.os.trans h.os, k.tape.trans h.tape, k.output.trans h.output, Nat.le_trans h.size k.size, fun i hi hr => (k.block i (Nat.lt_of_lt_of_le hi h.size) hr).trans (h.block i hi hr)⟩
theorem gset {a b : World} {B : Nat} (h : a.grownBy b (some B)) (o : Nat) (u : Value) : a.grownBy (b.setCell ⟨B, o, none⟩ u) (some B) := gtrans h (blk_grown b ⟨B, o, none⟩ u)
theorem gdrew {a b : World} {r : Option Nat} (h : a.grownBy b r) : a.grownBy b.drew r := ⟨h.os, h.tape, h.output, h.size, h.block⟩
theorem gbelow {a b c : World} {r : Option Nat} (h : a.grownBy b r) (k : Below b.heap.size b c) : a.grownBy c r := gtrans h ⟨k.os, k.tape, k.output, k.size, fun i hi _ => k.block i hi⟩
theorem swap_any {b : Nat} {v : Value} {A : List Tim.T} {w : World} (h : RowT b w v A) (i j : Nat) (hi : i < A.length) (hj : j < A.length) :
    Calls Try.prog 48 #[v, .int .i64 (i : Int), .int .i64 (j : Int)] w fun e w' => e = .returned (.tuple #[]) ∧ RowT b w' v (Tim.sw A i j) ∧ w.grownBy w' v.ownBlock := by
  obtain ⟨G, cap, rfl, _⟩ := h.full (by omega)
  obtain ⟨c1, c2⟩ := h.cells i hi
  obtain ⟨d1, d2⟩ := h.cells j hj
  have hg : w.grownBy w (some G) := ⟨rfl, rfl, rfl, Nat.le_refl _, fun _ _ _ => rfl⟩
  by_cases e : i = j
  · subst e
    refine (swap_one G A.length cap i (2 * i) _ _ w (indexT G _ cap i hi) h.frozen c1 c2).mono ?_
    rintro e w' ⟨rfl, rfl⟩
    have h1 := h.set i (Tim.g A i) hi
    have e1 : A.set i (Tim.g A i) = A := by rw [Tim.g_eq A i hi]; simp
    rw [e1] at h1
    have h2 := h1.set i (Tim.g A i) hi
    rw [e1] at h2
    rw [Tim.sw_same A i hi]
    exact ⟨rfl, h2, gdrew (gset (gset (gset (gset hg _ _) _ _) _ _) _ _)⟩
  · refine (swap_two G A.length cap i j (2 * i) (2 * j) _ _ _ _ w (by omega) (by omega) (by omega) (indexT G _ cap i hi) (indexT G _ cap j hj) h.frozen c1 c2 d1 d2).mono ?_
    rintro e w' ⟨rfl, rfl⟩
    have h1 := h.set i (Tim.g A j) hi
    have hl : (A.set i (Tim.g A j)).length = A.length := List.length_set ..
    rw [← hl] at h1
    have h2 := h1.set j (Tim.g A i) (by rw [hl]; exact hj)
    rw [hl] at h2
    exact ⟨rfl, h2, gdrew (gset (gset (gset (gset hg _ _) _ _) _ _) _ _)⟩
end Go.Proofs.Ythbbeiflkiihdaa.Y
