/-
  The walk of the law of higher caps and bases.
-/
import Derived.Test.YtikepollbiainaaB9
import Derived.Test.YtikepollbiainaaBits
import Derived.Test.YtikepollbiainaaMods
namespace Go.Proofs.Ytikepollbiainaa.B
open Go.RowKit
set_option maxRecDepth 100000 in
set_option maxHeartbeats 3200000 in
theorem caps_walk (t0 b0 m0 k0 : Int) (b m k t : Nat) (x y z c : Int) (w : World)
    (ht : wrap64 ((IntKind.u64.wrap t0).tmod 63) = (t : Int)) (hb : bits .and .i64 b0 255 = (b : Int)) (hm : bits .and .i64 m0 1023 = (m : Int)) (hk : bits .and .i64 k0 511 = (k : Int))
    (b2 : b < 256) (m2 : m < 1024) (t2 : t < 63) (k2 : k < 512) (d1 : x ≤ y) (d2 : x ≤ z)
    (hc : m < k ∧ c = 1 + (b : Int) + m ∨ m = k ∧ c = 1 + (b : Int) + m ∨ k < m ∧ c = 1 + (b : Int) + k)
    (he : x = 1 + (b : Int) + m ∨ x ≠ 1 + (b : Int) + m ∧ t < 20 ∧ wrap64 ((1 + (b : Int)) * 2 ^ t) = x)
    (D1 : Hid (∀ W, Calls Try.prog 8 #[.int .i64 (t : Int), .int .i64 (1 + (b : Int)), .int .i64 (1 + (b : Int) + m), .int .i64 0] W fun r w' => r = .returned (.tuple #[.int .i64 x, .int .i64 0]) ∧ W = w'))
    (D2 : Hid (∀ W, Calls Try.prog 8 #[.int .i64 (t : Int), .int .i64 (1 + (b : Int)), .int .i64 (1 + (b : Int) + m + k), .int .i64 0] W fun r w' => r = .returned (.tuple #[.int .i64 y, .int .i64 0]) ∧ W = w'))
    (D3 : Hid (∀ W, Calls Try.prog 8 #[.int .i64 (t : Int), .int .i64 c, .int .i64 (1 + (b : Int) + m), .int .i64 0] W fun r w' => r = .returned (.tuple #[.int .i64 z, .int .i64 0]) ∧ W = w')) :
    Calls Try.prog 7 #[.int .i64 t0, .int .i64 b0, .int .i64 m0, .int .i64 k0] w fun e w' => e = .returned (.bool true) ∧ Below w.heap.size w w' := by
  go_enter Try.func7, Try.ntmps7
  go_wp2_with fail
  refine (awake_any _).mono ?_
  rintro r w1 ⟨rfl, rfl⟩
  go_wp2_with fail
  refine (D1.out _).mono ?_
  rintro r w1 ⟨rfl, rfl⟩
  go_wp2_with fail
  refine (D2.out _).mono ?_
  rintro r w1 ⟨rfl, rfl⟩
  rcases hc with ⟨h, rfl⟩ | ⟨rfl, rfl⟩ | ⟨h, rfl⟩ <;> rcases he with he | ⟨hx, ht20, es⟩
  all_goals go_wp2_with (first | (go_at_call 10; refine (num_any _ _).mono ?_; rintro e w9 ⟨rfl, rfl⟩) | (refine (D3.out _).mono ?_; rintro r w1 ⟨rfl, rfl⟩))
  all_goals go_ret
  all_goals exact ⟨rfl, Below.refl _ _⟩
theorem del_zero (t : Nat) (b m : Int) (ht : t ≤ 62) (h1 : 1 ≤ b) (h2 : b ≤ m) (h3 : m ≤ 4096) : Bko.del (t : Int) b m 0 = (Bko.cap b m t, 0) := by
  have c := Bko.cap_low b m h1 h2 t
  rw [Bko.del_good _ _ _ _ (by omega), show ((t : Int)).toNat = t from rfl, Bko.rest_zero _ (by omega)]
theorem walk_caps (t0 b0 m0 k0 : Int) (w : World) (_ : (Lit.int .i64 t0).wf = true) (_ : (Lit.int .i64 b0).wf = true) (_ : (Lit.int .i64 m0).wf = true) (_ : (Lit.int .i64 k0).wf = true) :
    Calls Try.prog 7 #[.int .i64 t0, .int .i64 b0, .int .i64 m0, .int .i64 k0] w fun e w' => e = .returned (.bool true) ∧ Below w.heap.size w w' := by
  obtain ⟨t, ht, t2⟩ := by_many t0 63 (by decide) (by decide)
  obtain ⟨b, hb, b2⟩ := low_255 b0
  obtain ⟨m, hm, m2⟩ := low_1023 m0
  obtain ⟨k, hk, k2⟩ := low_511 k0
  obtain ⟨c, hc, c1, c2⟩ : ∃ c : Int, (m < k ∧ c = 1 + (b : Int) + m ∨ m = k ∧ c = 1 + (b : Int) + m ∨ k < m ∧ c = 1 + (b : Int) + k) ∧ 1 + (b : Int) ≤ c ∧ c ≤ 1 + (b : Int) + m := by
    rcases Nat.lt_trichotomy m k with h | h | h
    · exact ⟨_, .inl ⟨h, rfl⟩, by omega, by omega⟩
    · exact ⟨_, .inr (.inl ⟨h, rfl⟩), by omega, by omega⟩
    · exact ⟨_, .inr (.inr ⟨h, rfl⟩), by omega, by omega⟩
  have l1 := Bko.cap_low (1 + (b : Int)) (1 + (b : Int) + m) (by omega) (by omega) t
  have l2 := Bko.cap_low (1 + (b : Int)) (1 + (b : Int) + m + k) (by omega) (by omega) t
  have l3 := Bko.cap_low c (1 + (b : Int) + m) (by omega) (by omega) t
  have m1 := Bko.cap_le (1 + (b : Int)) (1 + (b : Int) + m) t
  have u1 := Bko.cap_more (1 + (b : Int)) (1 + (b : Int) + m) k (by omega) (by omega) t
  have u2 := Bko.cap_base (1 + (b : Int)) c (1 + (b : Int) + m) (by omega) c1 t
  have he : Bko.cap (1 + (b : Int)) (1 + (b : Int) + m) t = 1 + (b : Int) + m ∨ Bko.cap (1 + (b : Int)) (1 + (b : Int) + m) t ≠ 1 + (b : Int) + m ∧ t < 20 ∧ wrap64 ((1 + (b : Int)) * 2 ^ t) = Bko.cap (1 + (b : Int)) (1 + (b : Int) + m) t := by
    by_cases h : Bko.cap (1 + (b : Int)) (1 + (b : Int) + m) t = 1 + (b : Int) + m
    · exact .inl h
    · obtain ⟨h1, h2⟩ := Bko.cap_less (1 + (b : Int)) (1 + (b : Int) + m) (by omega) (by omega) t h
      refine .inr ⟨h, h1, ?_⟩
      rw [← h2]
      exact IntWalk.wrap64_in _ ⟨by omega, by omega⟩
  have G := fun (x y : Int) (h1 : 1 ≤ x) (h2 : x ≤ y) (h3 : y ≤ 4096) => del_zero t x y (by omega) h1 h2 h3
  exact caps_walk t0 b0 m0 k0 b m k t _ _ _ c w ht hb hm hk b2 m2 (by omega) k2 u1 u2 hc he (Lib.hid fun W => bdel_at _ _ _ _ _ _ (by decide) (G _ _ (by omega) (by omega) (by omega)) W) (Lib.hid fun W => bdel_at _ _ _ _ _ _ (by decide) (G _ _ (by omega) (by omega) (by omega)) W) (Lib.hid fun W => bdel_at _ _ _ _ _ _ (by decide) (G _ _ (by omega) (by omega) (by omega)) W)
end Go.Proofs.Ytikepollbiainaa.B
