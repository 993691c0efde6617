/-
  Contract of the program's own delay, any four numbers.
-/
import Derived.Test.YtikepollbiainaaB1
namespace Go.Proofs.Ytikepollbiainaa.B
open Go.RowKit
/-- The rest, as the walk spells it. -/
theorem quarter (d : Int) (h1 : 1 ≤ d) : d.tdiv 4 = d / 4 := Int.tdiv_eq_ediv_of_nonneg (by omega)
theorem rem_small (j k : Int) (h0 : 0 ≤ j) : j.tmod k = j % k := Int.tmod_eq_emod_of_nonneg h0
set_option maxHeartbeats 800000 in
theorem bdel_good (b m j : Int) (t : Nat) (w : World) (hb : 1 ≤ b) (hb2 : b ≤ 4096) (hm : b ≤ m) (hm2 : m ≤ 4096) (ht : t ≤ 62) (hj : 0 ≤ j) (hj2 : j ≤ 9223372036854775807) :
    Calls Try.prog 8 #[.int .i64 (t : Int), .int .i64 b, .int .i64 m, .int .i64 j] w fun e w' => e = .returned (.tuple #[.int .i64 (Bko.rest (Bko.cap b m t) j), .int .i64 0]) ∧ w = w' := by
  have D := Lib.hid fun W => doubled_any b m t W hb hm hm2 ht
  have c1 := Bko.cap_low b m hb hm t
  have c2 := Bko.cap_le b m t
  generalize Bko.cap b m t = d at *
  have d4 := quarter d (by omega)
  have dj := rem_small j (d / 4 + 1) hj
  have r0 := Int.emod_nonneg j (show d / 4 + 1 ≠ 0 by omega)
  have r1 := Int.emod_lt_of_pos j (show 0 < d / 4 + 1 by omega)
  have HR : Hid (Bko.rest d j = d - j % (d / 4 + 1)) := Lib.hid rfl
  go_enter Try.func8, Try.ntmps8
  go_wp2_with (refine (D.out _).mono ?_; rintro e w1 ⟨rfl, rfl⟩)
  go_ret2
  exact ⟨by rw [HR.out]; rfl, rfl⟩
set_option maxHeartbeats 800000 in
theorem bdel_wrong (t b m j : Int) (w : World) (h : t < 0 ∨ ¬t < 0 ∧ 62 < t ∨ ¬t < 0 ∧ ¬62 < t ∧ b < 1 ∨ ¬t < 0 ∧ ¬62 < t ∧ ¬b < 1 ∧ 4096 < b ∨ ¬t < 0 ∧ ¬62 < t ∧ ¬b < 1 ∧ ¬4096 < b ∧ m < b ∨ ¬t < 0 ∧ ¬62 < t ∧ ¬b < 1 ∧ ¬4096 < b ∧ ¬m < b ∧ 4096 < m ∨ ¬t < 0 ∧ ¬62 < t ∧ ¬b < 1 ∧ ¬4096 < b ∧ ¬m < b ∧ ¬4096 < m ∧ j < 0) :
    Calls Try.prog 8 #[.int .i64 t, .int .i64 b, .int .i64 m, .int .i64 j] w fun e w' => e = .returned (.tuple #[.int .i64 0, .int .i64 1200]) ∧ w = w' := by
  rcases h with h | ⟨h1, h⟩ | ⟨h1, h2, h⟩ | ⟨h1, h2, h3, h⟩ | ⟨h1, h2, h3, h4, h⟩ | ⟨h1, h2, h3, h4, h5, h⟩ | ⟨h1, h2, h3, h4, h5, h6, h⟩
  all_goals go_enter Try.func8, Try.ntmps8
  all_goals go_wp2_with fail
  all_goals go_ret2
  all_goals exact ⟨rfl, rfl⟩
theorem bdel_any (t b m j : Int) (w : World) (hj : j ≤ 9223372036854775807) :
    Calls Try.prog 8 #[.int .i64 t, .int .i64 b, .int .i64 m, .int .i64 j] w fun e w' => e = .returned (.tuple #[.int .i64 (Bko.del t b m j).1, .int .i64 (Bko.del t b m j).2]) ∧ w = w' := by
  by_cases h : 0 ≤ t ∧ t ≤ 62 ∧ 1 ≤ b ∧ b ≤ 4096 ∧ b ≤ m ∧ m ≤ 4096 ∧ 0 ≤ j
  · rw [Bko.del_good t b m j h]
    obtain ⟨h1, h2, h3, h4, h5, h6, h7⟩ := h
    obtain ⟨n, rfl⟩ : ∃ n : Nat, t = n := ⟨t.toNat, by omega⟩
    exact bdel_good b m j n w h3 h4 h5 h6 (by omega) h7 hj
  · rw [Bko.del_bad t b m j h]
    exact bdel_wrong t b m j w (by omega)
end Go.Proofs.Ytikepollbiainaa.B
