/-
  Contract of the program's own delay.
-/
import Derived.Test.YtikepollbiainaaBMath
import Derived.Test.YtikepollbiainaaNum
namespace Go.Proofs.Ytikepollbiainaa.B
open Go.RowKit
set_option maxHeartbeats 400000 in
theorem doubled_any (b m : Int) (t : Nat) (w : World) (hb : 1 ≤ b) (hm : b ≤ m) (hm2 : m ≤ 4096) (ht : t ≤ 62) :
    Calls Try.prog 12 #[.int .i64 b, .int .i64 (t : Int), .int .i64 m] w fun e w' => e = .returned (.int .i64 (Bko.cap b m t)) ∧ w = w' := by
  go_enter Try.func12, Try.ntmps12
  go_wp2_with fail
  go_loopw [7, 10] (fun d i wr => ∃ k : Nat, k ≤ t ∧ i = .int .i64 k ∧ d = .int .i64 (Bko.grown b m k) ∧ w = wr) (fun _ i _ => t - (intOf i).toNat)
  case atStart => exact ⟨0, by omega, rfl, rfl, rfl⟩
  case round =>
    obtain ⟨k, hk, rfl, rfl, rfl⟩ := hrel
    have g1 := Bko.grown_low b m hb k
    have g2 := Bko.grown_high b m hm hb k
    by_cases hlt : k < t
    · by_cases hge : m ≤ Bko.grown b m k
      · have HE : Hid (min (Bko.grown b m k) m = Bko.cap b m t) := Lib.hid (by unfold Bko.cap; rw [Bko.grown_end b m k t hk hge])
        generalize Bko.grown b m k = y at *
        rcases Int.lt_or_eq_of_le hge with h | rfl
        · rw [show min y m = m by omega] at HE
          go_wp2_with fail
          go_ret
          exact ⟨by rw [← HE.out]; rfl, rfl⟩
        · rw [show min m m = m by omega] at HE
          go_wp2_with fail
          go_ret
          exact ⟨by rw [← HE.out]; rfl, rfl⟩
      · have HS := Lib.hid (Bko.grown_go b m k (by omega))
        generalize Bko.grown b m k = y at *
        go_wp2_with fail
        go_roundw
        case rel => exact ⟨k + 1, by omega, by go_num, by rw [HS.out], trivial⟩
        case measure => simp [intOf]; omega
    · obtain rfl : k = t := by omega
      have HE : Hid (min (Bko.grown b m k) m = Bko.cap b m k) := Lib.hid rfl
      generalize Bko.grown b m k = y at *
      rcases Int.lt_trichotomy y m with h | rfl | h
      · rw [show min y m = y by omega] at HE
        go_wp2_with fail
        go_ret
        exact ⟨by rw [← HE.out]; rfl, rfl⟩
      · rw [show min y y = y by omega] at HE
        go_wp2_with fail
        go_ret
        exact ⟨by rw [← HE.out]; rfl, rfl⟩
      · rw [show min y m = m by omega] at HE
        go_wp2_with fail
        go_ret
        exact ⟨by rw [← HE.out]; rfl, rfl⟩
end Go.Proofs.Ytikepollbiainaa.B
