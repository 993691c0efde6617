/-
  The laws' own helper: a number, whatever its type is called.
-/
import Derived.Test.YtikepollbiainaaOwn
namespace Go.Proofs.Ytikepollbiainaa
open Go.RowKit
theorem num_any (n : Int) (w : World) : Calls Try.prog 10 #[.int .i64 n] w fun e w' => e = .returned (.int .i64 n) ∧ w = w' := by
  go_enter Try.func10, Try.ntmps10
  go_wp2
  go_ret
  exact ⟨rfl, rfl⟩
end Go.Proofs.Ytikepollbiainaa
