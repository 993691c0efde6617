/-
  What every program of stage 12 answers that is one.
-/
import Derived.Test.YtikepollbiainaaB2
import Derived.Deep.QuietTactic
import Derived.BigQuiet
import Derived.Deep.WholeRow
namespace Go.Proofs.Ytikepollbiainaa.B
open Go.RowKit
/-- A delay at numbers whose answer is known. -/
theorem bdel_at (t b m j x e : Int) (hj : j ≤ 9223372036854775807) (h : Bko.del t b m j = (x, e)) (w : World) :
    Calls Try.prog 8 #[.int .i64 t, .int .i64 b, .int .i64 m, .int .i64 j] w fun r w' => r = .returned (.tuple #[.int .i64 x, .int .i64 e]) ∧ w = w' := by
  have k := bdel_any t b m j w hj
  rwa [h] at k
set_option maxHeartbeats 400000 in
theorem awake_any (w : World) : Calls Try.prog 11 #[] w fun e w' => e = .returned (.bool true) ∧ w = w' := by
  have D1 := Lib.hid fun W => bdel_at 3 2 10 0 10 0 (by decide) (by decide +kernel) W
  have D2 := Lib.hid fun W => bdel_at 1 2 10 1 3 0 (by decide) (by decide +kernel) W
  have D3 := Lib.hid fun W => bdel_at (-1) 2 10 0 0 1200 (by decide) (by decide +kernel) W
  go_enter Try.func11, Try.ntmps11
  go_wp2_with fail
  refine (D1.out _).mono ?_
  rintro e w1 ⟨rfl, rfl⟩
  go_wp2_with fail
  refine (D2.out _).mono ?_
  rintro e w1 ⟨rfl, rfl⟩
  go_wp2_with fail
  refine (D3.out _).mono ?_
  rintro e w1 ⟨rfl, rfl⟩
  go_wp2_with (go_at_call 10; refine (num_any _ _).mono ?_; rintro e w9 ⟨rfl, rfl⟩)
  go_ret
  exact ⟨rfl, rfl⟩
end Go.Proofs.Ytikepollbiainaa.B
