/-
  The walks of the laws of any delay, and of which tries, bases, caps there are.
-/
import Derived.Test.YtikepollbiainaaB3
import Derived.Test.YtikepollbiainaaB9
import Derived.Test.YtikepollbiainaaMods
namespace Go.Proofs.Ytikepollbiainaa.B
open Go.RowKit
set_option maxHeartbeats 400000 in
theorem walk_delays (t b m j : Int) (w : World) (_ : (Lit.int .i64 t).wf = true) (_ : (Lit.int .i64 b).wf = true) (_ : (Lit.int .i64 m).wf = true) (hj : (Lit.int .i64 j).wf = true) :
    Calls Try.prog 3 #[.int .i64 t, .int .i64 b, .int .i64 m, .int .i64 j] w fun e w' => e = .returned (.bool true) ∧ Below w.heap.size w w' := by
  have D := Lib.hid fun W => bdel_any t b m j W (wf_i64 hj).2
  have R := Lib.hid fun W => rdel_any t b m j W (wf_i64 hj).2
  generalize (Bko.del t b m j).1 = x at *
  generalize (Bko.del t b m j).2 = e at *
  go_enter Try.func3, Try.ntmps3
  go_wp2_with fail
  refine (D.out _).mono ?_
  rintro r w1 ⟨rfl, rfl⟩
  go_wp2_with fail
  refine (R.out _).mono ?_
  rintro r w1 ⟨rfl, rfl⟩
  go_wp2_with (first | (go_at_call 10; refine (num_any _ _).mono ?_; rintro e w9 ⟨rfl, rfl⟩) | (refine (awake_any _).mono ?_; rintro e w9 ⟨rfl, rfl⟩))
  go_ret
  exact ⟨rfl, Below.refl _ _⟩
set_option maxHeartbeats 800000 in
theorem forms_good (t b m j x : Int) (w : World) (h : 0 ≤ t ∧ t ≤ 62 ∧ 1 ≤ b ∧ b ≤ 4096 ∧ b ≤ m ∧ m ≤ 4096 ∧ 0 ≤ j) (h1 : 1 ≤ x) (h2 : x ≤ m)
    (D : Hid (∀ W, Calls Try.prog 8 #[.int .i64 t, .int .i64 b, .int .i64 m, .int .i64 j] W fun r w' => r = .returned (.tuple #[.int .i64 x, .int .i64 0]) ∧ W = w')) :
    Calls Try.prog 5 #[.int .i64 t, .int .i64 b, .int .i64 m, .int .i64 j] w fun e w' => e = .returned (.bool true) ∧ Below w.heap.size w w' := by
  obtain ⟨a1, a2, a3, a4, a5, a6, a7⟩ := h
  go_enter Try.func5, Try.ntmps5
  go_wp2_with (first | (refine (D.out _).mono ?_; rintro r w1 ⟨rfl, rfl⟩) | (go_at_call 10; refine (num_any _ _).mono ?_; rintro e w9 ⟨rfl, rfl⟩) | (refine (awake_any _).mono ?_; rintro e w9 ⟨rfl, rfl⟩))
  go_ret
  exact ⟨rfl, Below.refl _ _⟩
set_option maxHeartbeats 1600000 in
theorem forms_bad (t b m j : Int) (w : World) (h : t < 0 ∨ ¬t < 0 ∧ 62 < t ∨ ¬t < 0 ∧ ¬62 < t ∧ b < 1 ∨ ¬t < 0 ∧ ¬62 < t ∧ ¬b < 1 ∧ 4096 < b ∨ ¬t < 0 ∧ ¬62 < t ∧ ¬b < 1 ∧ ¬4096 < b ∧ m < b ∨ ¬t < 0 ∧ ¬62 < t ∧ ¬b < 1 ∧ ¬4096 < b ∧ ¬m < b ∧ 4096 < m ∨ ¬t < 0 ∧ ¬62 < t ∧ ¬b < 1 ∧ ¬4096 < b ∧ ¬m < b ∧ ¬4096 < m ∧ j < 0)
    (D : Hid (∀ W, Calls Try.prog 8 #[.int .i64 t, .int .i64 b, .int .i64 m, .int .i64 j] W fun r w' => r = .returned (.tuple #[.int .i64 0, .int .i64 1200]) ∧ W = w')) :
    Calls Try.prog 5 #[.int .i64 t, .int .i64 b, .int .i64 m, .int .i64 j] w fun e w' => e = .returned (.bool true) ∧ Below w.heap.size w w' := by
  rcases h with h | ⟨h1, h⟩ | ⟨h1, h2, h⟩ | ⟨h1, h2, h3, h⟩ | ⟨h1, h2, h3, h4, h⟩ | ⟨h1, h2, h3, h4, h5, h⟩ | ⟨h1, h2, h3, h4, h5, h6, h⟩
  all_goals try have q : decide (0 ≤ j) = false := decide_eq_false (by omega)
  all_goals go_enter Try.func5, Try.ntmps5
  all_goals go_wp2_with (first | (refine (D.out _).mono ?_; rintro r w1 ⟨rfl, rfl⟩) | (go_at_call 10; refine (num_any _ _).mono ?_; rintro e w9 ⟨rfl, rfl⟩) | (refine (awake_any _).mono ?_; rintro e w9 ⟨rfl, rfl⟩))
  all_goals go_ret
  all_goals exact ⟨rfl, Below.refl _ _⟩
theorem walk_forms (t b m j : Int) (w : World) (_ : (Lit.int .i64 t).wf = true) (_ : (Lit.int .i64 b).wf = true) (_ : (Lit.int .i64 m).wf = true) (hj : (Lit.int .i64 j).wf = true) :
    Calls Try.prog 5 #[.int .i64 t, .int .i64 b, .int .i64 m, .int .i64 j] w fun e w' => e = .returned (.bool true) ∧ Below w.heap.size w w' := by
  by_cases h : 0 ≤ t ∧ t ≤ 62 ∧ 1 ≤ b ∧ b ≤ 4096 ∧ b ≤ m ∧ m ≤ 4096 ∧ 0 ≤ j
  · have c1 := Bko.cap_low b m h.2.2.1 h.2.2.2.2.1 t.toNat
    have c2 := Bko.cap_le b m t.toNat
    have r := Bko.rest_in (Bko.cap b m t.toNat) j (by omega)
    exact forms_good t b m j _ w h r.2.2 (Int.le_trans r.1 c2) (Lib.hid fun W => bdel_at t b m j _ _ (wf_i64 hj).2 (Bko.del_good t b m j h) W)
  · exact forms_bad t b m j w (by omega) (Lib.hid fun W => bdel_at t b m j _ _ (wf_i64 hj).2 (Bko.del_bad t b m j h) W)
end Go.Proofs.Ytikepollbiainaa.B
