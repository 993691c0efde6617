/-
  The walk of the law of jitter round and round.
-/
import Derived.Test.YtikepollbiainaaB9
import Derived.Test.YtikepollbiainaaMods
namespace Go.Proofs.Ytikepollbiainaa.B
open Go.RowKit
set_option maxRecDepth 100000 in
set_option maxHeartbeats 1600000 in
theorem jitter_walk (t0 b0 j0 : Int) (b j e : Int) (t : Nat) (w : World)
    (hb : wrap64 ((IntKind.u64.wrap b0).tmod 100) = b) (ht : wrap64 ((IntKind.u64.wrap t0).tmod 6) = (t : Int)) (hj : wrap64 ((IntKind.u64.wrap j0).tmod (e / 4 + 1)) = j)
    (b1 : 0 ≤ b) (b2 : b < 100) (t2 : t < 6) (j1 : 0 ≤ j) (j2 : j ≤ e / 4) (e1 : 1 ≤ e) (e2 : e ≤ 4096) (e4 : e.tdiv 4 = e / 4) (es : wrap64 ((1 + b) * 2 ^ t) = e)
    (D1 : Hid (∀ W, Calls Try.prog 8 #[.int .i64 (t : Int), .int .i64 (1 + b), .int .i64 4096, .int .i64 0] W fun r w' => r = .returned (.tuple #[.int .i64 e, .int .i64 0]) ∧ W = w'))
    (D2 : Hid (∀ W, Calls Try.prog 8 #[.int .i64 (t : Int), .int .i64 (1 + b), .int .i64 4096, .int .i64 j] W fun r w' => r = .returned (.tuple #[.int .i64 (e - j), .int .i64 0]) ∧ W = w'))
    (D3 : Hid (∀ W, Calls Try.prog 8 #[.int .i64 (t : Int), .int .i64 (1 + b), .int .i64 4096, .int .i64 (j + (e / 4 + 1))] W fun r w' => r = .returned (.tuple #[.int .i64 (e - j), .int .i64 0]) ∧ W = w')) :
    Calls Try.prog 6 #[.int .i64 t0, .int .i64 b0, .int .i64 j0] w fun e w' => e = .returned (.bool true) ∧ Below w.heap.size w w' := by
  go_enter Try.func6, Try.ntmps6
  go_wp2_with fail
  refine (awake_any _).mono ?_
  rintro r w1 ⟨rfl, rfl⟩
  go_wp2_with fail
  refine (D1.out _).mono ?_
  rintro r w1 ⟨rfl, rfl⟩
  go_wp2_with fail
  refine (num_any _ _).mono ?_
  rintro r w1 ⟨rfl, rfl⟩
  go_wp2_with fail
  refine (D2.out _).mono ?_
  rintro r w1 ⟨rfl, rfl⟩
  go_wp2_with fail
  refine (D3.out _).mono ?_
  rintro r w1 ⟨rfl, rfl⟩
  clear hb ht hj e4 D1 D2 D3
  go_wp2_with (go_at_call 10; refine (num_any _ _).mono ?_; rintro e w9 ⟨rfl, rfl⟩)
  go_ret
  exact ⟨rfl, Below.refl _ _⟩
theorem rest_less (d j : Int) (h0 : 0 ≤ j) (h : j < d / 4 + 1) : Bko.rest d j = d - j := by
  unfold Bko.rest
  rw [Int.emod_eq_of_lt h0 h]
theorem rest_round (d j : Int) (h0 : 0 ≤ j) (h : j < d / 4 + 1) : Bko.rest d (j + (d / 4 + 1)) = d - j := by
  unfold Bko.rest
  rw [Int.add_emod_right, Int.emod_eq_of_lt h0 h]
theorem walk_jitter (t0 b0 j0 : Int) (w : World) (_ : (Lit.int .i64 t0).wf = true) (_ : (Lit.int .i64 b0).wf = true) (_ : (Lit.int .i64 j0).wf = true) :
    Calls Try.prog 6 #[.int .i64 t0, .int .i64 b0, .int .i64 j0] w fun e w' => e = .returned (.bool true) ∧ Below w.heap.size w w' := by
  obtain ⟨b, hb, b2⟩ := by_many b0 100 (by decide) (by decide)
  obtain ⟨t, ht, t2⟩ := by_many t0 6 (by decide) (by decide)
  have c1 := Bko.cap_low (1 + (b : Int)) 4096 (by omega) (by omega) t
  have c2 := Bko.cap_le (1 + (b : Int)) 4096 t
  have c3 := Bko.cap_pow (1 + (b : Int)) 4096 (by omega) t
  have hp : (2 : Int) ^ t ≤ 32 ∧ 1 ≤ (2 : Int) ^ t := by
    rcases t with _ | _ | _ | _ | _ | _ | t
    · decide
    · decide
    · decide
    · decide
    · decide
    · decide
    · omega
  have hm := Int.mul_le_mul (show 1 + (b : Int) ≤ 100 by omega) hp.1 (by omega) (by decide)
  have e : Bko.cap (1 + (b : Int)) 4096 t = (1 + (b : Int)) * 2 ^ t := by omega
  have hg : 0 ≤ (t : Int) ∧ (t : Int) ≤ 62 ∧ 1 ≤ 1 + (b : Int) ∧ 1 + (b : Int) ≤ 4096 ∧ 1 + (b : Int) ≤ 4096 ∧ (4096 : Int) ≤ 4096 := by omega
  have G := fun (j : Int) (h : 0 ≤ j) => Bko.del_good (t : Int) (1 + (b : Int)) 4096 j ⟨hg.1, hg.2.1, hg.2.2.1, hg.2.2.2.1, hg.2.2.2.2.1, hg.2.2.2.2.2, h⟩
  rw [show ((t : Int)).toNat = t from rfl] at G
  have es : wrap64 ((1 + (b : Int)) * 2 ^ t) = Bko.cap (1 + (b : Int)) 4096 t := by rw [← e]; exact IntWalk.wrap64_in _ ⟨by omega, by omega⟩
  clear e c3 hm
  generalize Bko.cap (1 + (b : Int)) 4096 t = d at *
  obtain ⟨j, hj, j2⟩ := by_many j0 (d / 4 + 1) (by omega) (by omega)
  refine jitter_walk t0 b0 j0 b j d t w hb ht hj (by omega) b2 (by omega) (by omega) (by omega) (by omega) c2 (quarter d (by omega)) es (Lib.hid fun W => bdel_at _ _ _ _ _ _ (by omega) (by rw [G 0 (by omega), Bko.rest_zero d (by omega)]) W) (Lib.hid fun W => bdel_at _ _ _ _ _ _ (by omega) (by rw [G j (by omega), rest_less d j (by omega) j2]) W) (Lib.hid fun W => bdel_at _ _ _ _ _ _ (by omega) (by rw [G _ (by omega), rest_round d j (by omega) j2]) W)
end Go.Proofs.Ytikepollbiainaa.B
