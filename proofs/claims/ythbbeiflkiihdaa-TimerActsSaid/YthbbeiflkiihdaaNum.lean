/-
  The laws' own helper: a number, whatever its type is called.
-/
import Derived.Test.YthbbeiflkiihdaaOwn
namespace Go.Proofs.Ythbbeiflkiihdaa
open Go.RowKit
theorem num_any (n : Int) (w : World) : Calls Try.prog 6 #[.int .i64 n] w fun e w' => e = .returned (.int .i64 n) ∧ w = w' := by
  go_enter Try.func6, Try.ntmps6
  go_wp2
  go_ret
  exact ⟨rfl, rfl⟩
end Go.Proofs.Ythbbeiflkiihdaa
