/-
  The laws' own helper: a number, whatever its type is called.
-/
import Derived.Test.YtiadndcodjpijaaOwn
namespace Go.Proofs.Ytiadndcodjpijaa
open Go.RowKit
theorem num_any (n : Int) (w : World) : Calls Try.prog 11 #[.int .i64 n] w fun e w' => e = .returned (.int .i64 n) ∧ w = w' := by
  go_enter Try.func11, Try.ntmps11
  go_wp2
  go_ret
  exact ⟨rfl, rfl⟩
end Go.Proofs.Ytiadndcodjpijaa
