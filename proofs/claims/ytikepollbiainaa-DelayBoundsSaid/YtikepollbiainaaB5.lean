/-
  The walk of the law of a delay's bounds.
-/
import Derived.Test.YtikepollbiainaaB9
import Derived.Test.YtikepollbiainaaMods
namespace Go.Proofs.Ytikepollbiainaa.B
open Go.RowKit
set_option maxRecDepth 100000 in
set_option maxHeartbeats 1600000 in
theorem bounds_walk (t0 b0 m0 j0 : Int) (b m t j d e x : Int) (w : World)
    (hb : wrap64 ((IntKind.u64.wrap b0).tmod 200) = b) (hm : wrap64 ((IntKind.u64.wrap m0).tmod 3000) = m) (ht : wrap64 ((IntKind.u64.wrap t0).tmod 62) = t) (hj : wrap64 ((IntKind.u64.wrap j0).tmod 1000000) = j)
    (b1 : 0 ≤ b) (b2 : b < 200) (m1 : 0 ≤ m) (m2 : m < 3000) (t1 : 0 ≤ t) (t2 : t < 62)
    (d1 : 1 ≤ d) (d2 : d ≤ e) (d3 : 3 * e ≤ 4 * d) (d4 : e ≤ x) (d5 : x ≤ 1 + b + m) (d6 : x ≤ 2 * e) (d7 : 1 + b ≤ e)
    (D1 : Hid (∀ W, Calls Try.prog 8 #[.int .i64 t, .int .i64 (1 + b), .int .i64 (1 + b + m), .int .i64 j] W fun r w' => r = .returned (.tuple #[.int .i64 d, .int .i64 0]) ∧ W = w'))
    (D2 : Hid (∀ W, Calls Try.prog 8 #[.int .i64 t, .int .i64 (1 + b), .int .i64 (1 + b + m), .int .i64 0] W fun r w' => r = .returned (.tuple #[.int .i64 e, .int .i64 0]) ∧ W = w'))
    (D3 : Hid (∀ W, Calls Try.prog 8 #[.int .i64 (t + 1), .int .i64 (1 + b), .int .i64 (1 + b + m), .int .i64 0] W fun r w' => r = .returned (.tuple #[.int .i64 x, .int .i64 0]) ∧ W = w')) :
    Calls Try.prog 4 #[.int .i64 t0, .int .i64 b0, .int .i64 m0, .int .i64 j0] w fun e w' => e = .returned (.bool true) ∧ Below w.heap.size w w' := by
  go_enter Try.func4, Try.ntmps4
  go_wp2_with fail
  refine (awake_any _).mono ?_
  rintro r w1 ⟨rfl, rfl⟩
  go_wp2_with fail
  refine (D1.out _).mono ?_
  rintro r w1 ⟨rfl, rfl⟩
  go_wp2_with fail
  refine (D2.out _).mono ?_
  rintro r w1 ⟨rfl, rfl⟩
  go_wp2_with fail
  refine (D3.out _).mono ?_
  rintro r w1 ⟨rfl, rfl⟩
  go_wp2_with (go_at_call 10; refine (num_any _ _).mono ?_; rintro e w9 ⟨rfl, rfl⟩)
  go_ret
  exact ⟨rfl, Below.refl _ _⟩
theorem walk_bounds (t0 b0 m0 j0 : Int) (w : World) (_ : (Lit.int .i64 t0).wf = true) (_ : (Lit.int .i64 b0).wf = true) (_ : (Lit.int .i64 m0).wf = true) (_ : (Lit.int .i64 j0).wf = true) :
    Calls Try.prog 4 #[.int .i64 t0, .int .i64 b0, .int .i64 m0, .int .i64 j0] w fun e w' => e = .returned (.bool true) ∧ Below w.heap.size w w' := by
  obtain ⟨b, hb, b2⟩ := by_many b0 200 (by decide) (by decide)
  obtain ⟨m, hm, m2⟩ := by_many m0 3000 (by decide) (by decide)
  obtain ⟨t, ht, t2⟩ := by_many t0 62 (by decide) (by decide)
  obtain ⟨j, hj, j2⟩ := by_many j0 1000000 (by decide) (by decide)
  have c1 := Bko.cap_low (1 + (b : Int)) (1 + (b : Int) + m) (by omega) (by omega) t
  have c2 := Bko.cap_next (1 + (b : Int)) (1 + (b : Int) + m) (by omega) (by omega) t
  have c3 := Bko.cap_le (1 + (b : Int)) (1 + (b : Int) + m) (t + 1)
  have r := Bko.rest_in (Bko.cap (1 + (b : Int)) (1 + (b : Int) + m) t) j (by omega)
  have z1 := Bko.rest_zero (Bko.cap (1 + (b : Int)) (1 + (b : Int) + m) t) (by omega)
  have z2 := Bko.rest_zero (Bko.cap (1 + (b : Int)) (1 + (b : Int) + m) (t + 1)) (by omega)
  refine bounds_walk t0 b0 m0 j0 b m t j _ _ _ w hb hm ht hj (by omega) b2 (by omega) m2 (by omega) t2 r.2.2 r.1 r.2.1 c2.1 c3 c2.2 c1 (Lib.hid fun W => bdel_at _ _ _ _ _ _ (by omega) (Bko.del_good _ _ _ _ (by omega)) W) (Lib.hid fun W => bdel_at _ _ _ _ _ _ (by omega) (by rw [Bko.del_good _ _ _ _ (by omega)]; exact congrArg (·, 0) z1) W) (Lib.hid fun W => bdel_at _ _ _ _ _ _ (by omega) (by rw [Bko.del_good _ _ _ _ (by omega)]; exact congrArg (·, 0) z2) W)
end Go.Proofs.Ytikepollbiainaa.B
