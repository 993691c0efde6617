/-
  Contract of the document's own table: an event's row.
-/
import Derived.Test.YtokkecbnbojlnaaDoorUMath
import Derived.Test.YtokkecbnbojlnaaDoorReads
namespace Go.Proofs.YtokkecbnbojlnaaDoor.U
open Go.RowKit
theorem txt_index (g n cap k : Nat) (hk : k < n) (W : World) : (Instr.indexAt 40 (.slice (some ⟨g, 0, none⟩) n cap) (.int .i64 (k : Int))).run Tryd.prog W = .ok (.pointer (some ⟨g, k, none⟩)) W := by
  have e0 : (⟨g, 0, none⟩ : Addr).add k = ⟨g, k, none⟩ := by unfold Addr.add; split <;> simp_all
  rw [index_at _ n cap k hk W, e0]
/-- A row of ten texts that was just laid. -/
def RowPost (v : Nat) (w : World) : Ending → World → Prop := fun e w' => ∃ g, e = .returned (.slice (some ⟨g, 0, none⟩) 10 10) ∧ Below w.heap.size w w' ∧ ∀ k, k < 10 → w'.cell? ⟨g, k, none⟩ = some (.string ⟨(Fsm.text k v).toArray⟩)
theorem row_laid (v : Nat) (hv : v < 16) (w : World) (C : Array Value) (h : C = (txts (Fsm.rowT v)).toArray) : RowPost v w (.returned (.slice (some ⟨w.heap.size, 0, none⟩) 10 10)) (w.alloc (.cells C 9)) := by
  subst h
  refine ⟨_, rfl, (Below.refl _ _).alloc (Nat.le_refl _) _, fun k hk => ?_⟩
  have h := new_cells w (txts (Fsm.rowT v)) 9 k (.string ⟨(Fsm.text k v).toArray⟩) (by simp [txts, Fsm.text_at k v hk hv])
  have e0 : (⟨w.heap.size, 0, none⟩ : Addr).add k = ⟨w.heap.size, k, none⟩ := by unfold Addr.add; split <;> simp_all
  rwa [e0] at h
theorem row_0 (w : World) : Calls Tryd.prog 19 #[.int .i64 0] w (RowPost 0 w) := by
  go_enter Tryd.func19, Tryd.ntmps19
  go_wp2_with fail
  go_ret
  exact row_laid 0 (by decide) w _ rfl
theorem row_1 (w : World) : Calls Tryd.prog 19 #[.int .i64 1] w (RowPost 1 w) := by
  go_enter Tryd.func19, Tryd.ntmps19
  go_wp2_with fail
  go_ret
  exact row_laid 1 (by decide) w _ rfl
theorem row_2 (w : World) : Calls Tryd.prog 19 #[.int .i64 2] w (RowPost 2 w) := by
  go_enter Tryd.func19, Tryd.ntmps19
  go_wp2_with fail
  go_ret
  exact row_laid 2 (by decide) w _ rfl
theorem row_3 (w : World) : Calls Tryd.prog 19 #[.int .i64 3] w (RowPost 3 w) := by
  go_enter Tryd.func19, Tryd.ntmps19
  go_wp2_with fail
  go_ret
  exact row_laid 3 (by decide) w _ rfl
theorem row_4 (w : World) : Calls Tryd.prog 19 #[.int .i64 4] w (RowPost 4 w) := by
  go_enter Tryd.func19, Tryd.ntmps19
  go_wp2_with fail
  go_ret
  exact row_laid 4 (by decide) w _ rfl
theorem row_5 (w : World) : Calls Tryd.prog 19 #[.int .i64 5] w (RowPost 5 w) := by
  go_enter Tryd.func19, Tryd.ntmps19
  go_wp2_with fail
  go_ret
  exact row_laid 5 (by decide) w _ rfl
theorem row_6 (w : World) : Calls Tryd.prog 19 #[.int .i64 6] w (RowPost 6 w) := by
  go_enter Tryd.func19, Tryd.ntmps19
  go_wp2_with fail
  go_ret
  exact row_laid 6 (by decide) w _ rfl
theorem row_7 (w : World) : Calls Tryd.prog 19 #[.int .i64 7] w (RowPost 7 w) := by
  go_enter Tryd.func19, Tryd.ntmps19
  go_wp2_with fail
  go_ret
  exact row_laid 7 (by decide) w _ rfl
theorem row_8 (w : World) : Calls Tryd.prog 19 #[.int .i64 8] w (RowPost 8 w) := by
  go_enter Tryd.func19, Tryd.ntmps19
  go_wp2_with fail
  go_ret
  exact row_laid 8 (by decide) w _ rfl
theorem row_9 (w : World) : Calls Tryd.prog 19 #[.int .i64 9] w (RowPost 9 w) := by
  go_enter Tryd.func19, Tryd.ntmps19
  go_wp2_with fail
  go_ret
  exact row_laid 9 (by decide) w _ rfl
theorem row_10 (w : World) : Calls Tryd.prog 19 #[.int .i64 10] w (RowPost 10 w) := by
  go_enter Tryd.func19, Tryd.ntmps19
  go_wp2_with fail
  go_ret
  exact row_laid 10 (by decide) w _ rfl
theorem row_11 (w : World) : Calls Tryd.prog 19 #[.int .i64 11] w (RowPost 11 w) := by
  go_enter Tryd.func19, Tryd.ntmps19
  go_wp2_with fail
  go_ret
  exact row_laid 11 (by decide) w _ rfl
theorem row_12 (w : World) : Calls Tryd.prog 19 #[.int .i64 12] w (RowPost 12 w) := by
  go_enter Tryd.func19, Tryd.ntmps19
  go_wp2_with fail
  go_ret
  exact row_laid 12 (by decide) w _ rfl
theorem row_13 (w : World) : Calls Tryd.prog 19 #[.int .i64 13] w (RowPost 13 w) := by
  go_enter Tryd.func19, Tryd.ntmps19
  go_wp2_with fail
  go_ret
  exact row_laid 13 (by decide) w _ rfl
theorem row_14 (w : World) : Calls Tryd.prog 19 #[.int .i64 14] w (RowPost 14 w) := by
  go_enter Tryd.func19, Tryd.ntmps19
  go_wp2_with fail
  go_ret
  exact row_laid 14 (by decide) w _ rfl
theorem row_15 (w : World) : Calls Tryd.prog 19 #[.int .i64 15] w (RowPost 15 w) := by
  go_enter Tryd.func19, Tryd.ntmps19
  go_wp2_with fail
  go_ret
  exact row_laid 15 (by decide) w _ rfl
theorem row_any (v : Nat) (hv : v < 16) (w : World) : Calls Tryd.prog 19 #[.int .i64 (v : Int)] w (RowPost v w) := by
  match v, hv with
  | 0, _ => exact row_0 w
  | 1, _ => exact row_1 w
  | 2, _ => exact row_2 w
  | 3, _ => exact row_3 w
  | 4, _ => exact row_4 w
  | 5, _ => exact row_5 w
  | 6, _ => exact row_6 w
  | 7, _ => exact row_7 w
  | 8, _ => exact row_8 w
  | 9, _ => exact row_9 w
  | 10, _ => exact row_10 w
  | 11, _ => exact row_11 w
  | 12, _ => exact row_12 w
  | 13, _ => exact row_13 w
  | 14, _ => exact row_14 w
  | 15, _ => exact row_15 w
  | n + 16, h => exact absurd h (by omega)
theorem row_none (v : Int) (hv : ¬(0 ≤ v ∧ v ≤ 15)) (w : World) : Calls Tryd.prog 19 #[.int .i64 v] w fun e w' => e = .returned (.slice none 0 0) ∧ w = w' := by
  have n0 : (v == 0) = false := by rw [beq_eq_false_iff_ne]; omega
  have n1 : (v == 1) = false := by rw [beq_eq_false_iff_ne]; omega
  have n2 : (v == 2) = false := by rw [beq_eq_false_iff_ne]; omega
  have n3 : (v == 3) = false := by rw [beq_eq_false_iff_ne]; omega
  have n4 : (v == 4) = false := by rw [beq_eq_false_iff_ne]; omega
  have n5 : (v == 5) = false := by rw [beq_eq_false_iff_ne]; omega
  have n6 : (v == 6) = false := by rw [beq_eq_false_iff_ne]; omega
  have n7 : (v == 7) = false := by rw [beq_eq_false_iff_ne]; omega
  have n8 : (v == 8) = false := by rw [beq_eq_false_iff_ne]; omega
  have n9 : (v == 9) = false := by rw [beq_eq_false_iff_ne]; omega
  have n10 : (v == 10) = false := by rw [beq_eq_false_iff_ne]; omega
  have n11 : (v == 11) = false := by rw [beq_eq_false_iff_ne]; omega
  have n12 : (v == 12) = false := by rw [beq_eq_false_iff_ne]; omega
  have n13 : (v == 13) = false := by rw [beq_eq_false_iff_ne]; omega
  have n14 : (v == 14) = false := by rw [beq_eq_false_iff_ne]; omega
  have n15 : (v == 15) = false := by rw [beq_eq_false_iff_ne]; omega
  clear hv
  go_enter Tryd.func19, Tryd.ntmps19
  go_wp2_with fail
  go_ret
  exact ⟨rfl, rfl⟩
end Go.Proofs.YtokkecbnbojlnaaDoor.U
