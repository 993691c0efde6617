/-
  Contract of the program's own rows.
-/
import Derived.Test.YtokkecbnbojlnaaDoorU4
import Derived.Test.YtokkecbnbojlnaaDoorOwn
namespace Go.Proofs.YtokkecbnbojlnaaDoor.U
open Go.RowKit
theorem prow_0 (w : World) : Calls Tryd.prog 26 #[.int .i64 0] w fun e w' => e = .returned (.string ⟨(Fsm.rowB 0).toArray⟩) ∧ w' = w := by
  go_enter Tryd.func26, Tryd.ntmps26
  go_wp2_with fail
  go_ret
  exact ⟨rfl, rfl⟩
theorem prow_1 (w : World) : Calls Tryd.prog 26 #[.int .i64 1] w fun e w' => e = .returned (.string ⟨(Fsm.rowB 1).toArray⟩) ∧ w' = w := by
  go_enter Tryd.func26, Tryd.ntmps26
  go_wp2_with fail
  go_ret
  exact ⟨rfl, rfl⟩
theorem prow_2 (w : World) : Calls Tryd.prog 26 #[.int .i64 2] w fun e w' => e = .returned (.string ⟨(Fsm.rowB 2).toArray⟩) ∧ w' = w := by
  go_enter Tryd.func26, Tryd.ntmps26
  go_wp2_with fail
  go_ret
  exact ⟨rfl, rfl⟩
theorem prow_3 (w : World) : Calls Tryd.prog 26 #[.int .i64 3] w fun e w' => e = .returned (.string ⟨(Fsm.rowB 3).toArray⟩) ∧ w' = w := by
  go_enter Tryd.func26, Tryd.ntmps26
  go_wp2_with fail
  go_ret
  exact ⟨rfl, rfl⟩
theorem prow_4 (w : World) : Calls Tryd.prog 26 #[.int .i64 4] w fun e w' => e = .returned (.string ⟨(Fsm.rowB 4).toArray⟩) ∧ w' = w := by
  go_enter Tryd.func26, Tryd.ntmps26
  go_wp2_with fail
  go_ret
  exact ⟨rfl, rfl⟩
theorem prow_5 (w : World) : Calls Tryd.prog 26 #[.int .i64 5] w fun e w' => e = .returned (.string ⟨(Fsm.rowB 5).toArray⟩) ∧ w' = w := by
  go_enter Tryd.func26, Tryd.ntmps26
  go_wp2_with fail
  go_ret
  exact ⟨rfl, rfl⟩
theorem prow_6 (w : World) : Calls Tryd.prog 26 #[.int .i64 6] w fun e w' => e = .returned (.string ⟨(Fsm.rowB 6).toArray⟩) ∧ w' = w := by
  go_enter Tryd.func26, Tryd.ntmps26
  go_wp2_with fail
  go_ret
  exact ⟨rfl, rfl⟩
theorem prow_7 (w : World) : Calls Tryd.prog 26 #[.int .i64 7] w fun e w' => e = .returned (.string ⟨(Fsm.rowB 7).toArray⟩) ∧ w' = w := by
  go_enter Tryd.func26, Tryd.ntmps26
  go_wp2_with fail
  go_ret
  exact ⟨rfl, rfl⟩
theorem prow_8 (w : World) : Calls Tryd.prog 26 #[.int .i64 8] w fun e w' => e = .returned (.string ⟨(Fsm.rowB 8).toArray⟩) ∧ w' = w := by
  go_enter Tryd.func26, Tryd.ntmps26
  go_wp2_with fail
  go_ret
  exact ⟨rfl, rfl⟩
theorem prow_9 (w : World) : Calls Tryd.prog 26 #[.int .i64 9] w fun e w' => e = .returned (.string ⟨(Fsm.rowB 9).toArray⟩) ∧ w' = w := by
  go_enter Tryd.func26, Tryd.ntmps26
  go_wp2_with fail
  go_ret
  exact ⟨rfl, rfl⟩
theorem prow_10 (w : World) : Calls Tryd.prog 26 #[.int .i64 10] w fun e w' => e = .returned (.string ⟨(Fsm.rowB 10).toArray⟩) ∧ w' = w := by
  go_enter Tryd.func26, Tryd.ntmps26
  go_wp2_with fail
  go_ret
  exact ⟨rfl, rfl⟩
theorem prow_11 (w : World) : Calls Tryd.prog 26 #[.int .i64 11] w fun e w' => e = .returned (.string ⟨(Fsm.rowB 11).toArray⟩) ∧ w' = w := by
  go_enter Tryd.func26, Tryd.ntmps26
  go_wp2_with fail
  go_ret
  exact ⟨rfl, rfl⟩
theorem prow_12 (w : World) : Calls Tryd.prog 26 #[.int .i64 12] w fun e w' => e = .returned (.string ⟨(Fsm.rowB 12).toArray⟩) ∧ w' = w := by
  go_enter Tryd.func26, Tryd.ntmps26
  go_wp2_with fail
  go_ret
  exact ⟨rfl, rfl⟩
theorem prow_13 (w : World) : Calls Tryd.prog 26 #[.int .i64 13] w fun e w' => e = .returned (.string ⟨(Fsm.rowB 13).toArray⟩) ∧ w' = w := by
  go_enter Tryd.func26, Tryd.ntmps26
  go_wp2_with fail
  go_ret
  exact ⟨rfl, rfl⟩
theorem prow_14 (w : World) : Calls Tryd.prog 26 #[.int .i64 14] w fun e w' => e = .returned (.string ⟨(Fsm.rowB 14).toArray⟩) ∧ w' = w := by
  go_enter Tryd.func26, Tryd.ntmps26
  go_wp2_with fail
  go_ret
  exact ⟨rfl, rfl⟩
theorem prow_15 (w : World) : Calls Tryd.prog 26 #[.int .i64 15] w fun e w' => e = .returned (.string ⟨(Fsm.rowB 15).toArray⟩) ∧ w' = w := by
  go_enter Tryd.func26, Tryd.ntmps26
  go_wp2_with fail
  go_ret
  exact ⟨rfl, rfl⟩
theorem prow_any (v : Nat) (hv : v < 16) (w : World) : Calls Tryd.prog 26 #[.int .i64 (v : Int)] w fun e w' => e = .returned (.string ⟨(Fsm.rowB v).toArray⟩) ∧ w' = w := by
  match v, hv with
  | 0, _ => exact prow_0 w
  | 1, _ => exact prow_1 w
  | 2, _ => exact prow_2 w
  | 3, _ => exact prow_3 w
  | 4, _ => exact prow_4 w
  | 5, _ => exact prow_5 w
  | 6, _ => exact prow_6 w
  | 7, _ => exact prow_7 w
  | 8, _ => exact prow_8 w
  | 9, _ => exact prow_9 w
  | 10, _ => exact prow_10 w
  | 11, _ => exact prow_11 w
  | 12, _ => exact prow_12 w
  | 13, _ => exact prow_13 w
  | 14, _ => exact prow_14 w
  | 15, _ => exact prow_15 w
  | n + 16, h => exact absurd h (by omega)
end Go.Proofs.YtokkecbnbojlnaaDoor.U
