/-
  Contract of the document's own delay, any four numbers.
-/
import Derived.Test.YtikepollbiainaaB2
import Derived.Deep.QuietTactic
import Derived.BigQuiet
import Derived.Deep.WholeRow
namespace Go.Proofs.Ytikepollbiainaa.B
open Go.RowKit
set_option maxHeartbeats 800000 in
theorem rdel_good (b m j : Int) (t : Nat) (w : World) (hb : 1 ≤ b) (hb2 : b ≤ 4096) (hm : b ≤ m) (hm2 : m ≤ 4096) (ht : t ≤ 62) (hj : 0 ≤ j) (hj2 : j ≤ 9223372036854775807) :
    Calls Try.prog 9 #[.int .i64 (t : Int), .int .i64 b, .int .i64 m, .int .i64 j] w fun e w' => e = .returned (.tuple #[.int .i64 (Bko.rest (Bko.cap b m t) j), .int .i64 0]) ∧ w = w' := by
  have c1 := Bko.cap_low b m hb hm t
  have c2 := Bko.cap_le b m t
  obtain ⟨d, hd⟩ : ∃ d, d = Bko.cap b m t := ⟨_, rfl⟩
  rw [← hd] at c1 c2 ⊢
  have d4 := quarter d (by omega)
  have dj := rem_small j (d / 4 + 1) hj
  have r0 := Int.emod_nonneg j (show d / 4 + 1 ≠ 0 by omega)
  have r1 := Int.emod_lt_of_pos j (show 0 < d / 4 + 1 by omega)
  have HR : Hid (Bko.rest d j = d - j % (d / 4 + 1)) := Lib.hid rfl
  have HD := Lib.hid hd
  clear hd
  go_enter Try.func9, Try.ntmps9
  go_wp2_with fail
  go_loopw [10, 11] (fun x i wr => ∃ k : Nat, k ≤ t ∧ i = .int .i64 k ∧ x = .int .i64 (Bko.grown b m k) ∧ w = wr) (fun _ i _ => t - (intOf i).toNat)
  case atStart => exact ⟨0, by omega, rfl, rfl, rfl⟩
  case round =>
    obtain ⟨k, hk, rfl, rfl, rfl⟩ := hrel
    have g1 := Bko.grown_low b m hb k
    have g2 := Bko.grown_high b m hm hb k
    by_cases hlt : k < t
    · by_cases hge : m ≤ Bko.grown b m k
      · have HE : min (Bko.grown b m k) m = d := by rw [HD.out]; unfold Bko.cap; rw [Bko.grown_end b m k t hk hge]
        generalize Bko.grown b m k = y at *
        rcases Int.lt_or_eq_of_le hge with h | rfl
        · obtain rfl : m = d := by omega
          go_wp2_with fail
          go_ret2
          exact ⟨by rw [HR.out]; rfl, rfl⟩
        · obtain rfl : m = d := by omega
          go_wp2_with fail
          go_ret2
          exact ⟨by rw [HR.out]; rfl, rfl⟩
      · have HS := Lib.hid (Bko.grown_go b m k (by omega))
        generalize Bko.grown b m k = y at *
        go_wp2_with fail
        go_roundw
        case rel => exact ⟨k + 1, by omega, by go_num, by rw [HS.out, Int.mul_comm], trivial⟩
        case measure => simp [intOf]; omega
    · obtain rfl : k = t := by omega
      have HE : min (Bko.grown b m k) m = d := HD.out.symm
      generalize Bko.grown b m k = y at *
      rcases Int.lt_trichotomy y m with h | rfl | h
      · obtain rfl : y = d := by omega
        go_wp2_with fail
        go_ret2
        exact ⟨by rw [HR.out]; rfl, rfl⟩
      · obtain rfl : y = d := by omega
        go_wp2_with fail
        go_ret2
        exact ⟨by rw [HR.out]; rfl, rfl⟩
      · obtain rfl : m = d := by omega
        go_wp2_with fail
        go_ret2
        exact ⟨by rw [HR.out]; rfl, rfl⟩
set_option maxHeartbeats 800000 in
theorem rdel_wrong (t b m j : Int) (w : World) (h : t < 0 ∨ ¬t < 0 ∧ 62 < t ∨ ¬t < 0 ∧ ¬62 < t ∧ b < 1 ∨ ¬t < 0 ∧ ¬62 < t ∧ ¬b < 1 ∧ 4096 < b ∨ ¬t < 0 ∧ ¬62 < t ∧ ¬b < 1 ∧ ¬4096 < b ∧ m < b ∨ ¬t < 0 ∧ ¬62 < t ∧ ¬b < 1 ∧ ¬4096 < b ∧ ¬m < b ∧ 4096 < m ∨ ¬t < 0 ∧ ¬62 < t ∧ ¬b < 1 ∧ ¬4096 < b ∧ ¬m < b ∧ ¬4096 < m ∧ j < 0) :
    Calls Try.prog 9 #[.int .i64 t, .int .i64 b, .int .i64 m, .int .i64 j] w fun e w' => e = .returned (.tuple #[.int .i64 0, .int .i64 1200]) ∧ w = w' := by
  rcases h with h | ⟨h1, h⟩ | ⟨h1, h2, h⟩ | ⟨h1, h2, h3, h⟩ | ⟨h1, h2, h3, h4, h⟩ | ⟨h1, h2, h3, h4, h5, h⟩ | ⟨h1, h2, h3, h4, h5, h6, h⟩
  all_goals go_enter Try.func9, Try.ntmps9
  all_goals go_wp2_with fail
  all_goals go_ret2
  all_goals exact ⟨rfl, rfl⟩
theorem rdel_any (t b m j : Int) (w : World) (hj : j ≤ 9223372036854775807) :
    Calls Try.prog 9 #[.int .i64 t, .int .i64 b, .int .i64 m, .int .i64 j] w fun e w' => e = .returned (.tuple #[.int .i64 (Bko.del t b m j).1, .int .i64 (Bko.del t b m j).2]) ∧ w = w' := by
  by_cases h : 0 ≤ t ∧ t ≤ 62 ∧ 1 ≤ b ∧ b ≤ 4096 ∧ b ≤ m ∧ m ≤ 4096 ∧ 0 ≤ j
  · rw [Bko.del_good t b m j h]
    obtain ⟨h1, h2, h3, h4, h5, h6, h7⟩ := h
    obtain ⟨n, rfl⟩ : ∃ n : Nat, t = n := ⟨t.toNat, by omega⟩
    exact rdel_good b m j n w h3 h4 h5 h6 (by omega) h7 hj
  · rw [Bko.del_bad t b m j h]
    exact rdel_wrong t b m j w (by omega)
end Go.Proofs.Ytikepollbiainaa.B
