/-
  The laws' own helper: a number, whatever its type is called.
-/
import Derived.Test.YtnkcplaggiopmaaDoorOwn
namespace Go.Proofs.YtnkcplaggiopmaaDoor
open Go.RowKit
theorem num_any (n : Int) (w : World) : Calls Tryd.prog 14 #[.int .i64 n] w fun e w' => e = .returned (.int .i64 n) ∧ w = w' := by
  go_enter Tryd.func14, Tryd.ntmps14
  go_wp2
  go_ret
  exact ⟨rfl, rfl⟩
end Go.Proofs.YtnkcplaggiopmaaDoor
