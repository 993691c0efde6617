/-
  The walk of the law that what was put comes back.
-/
import Derived.Test.YtpbmchgjjfaanaaV9
namespace Go.Proofs.Ytpbmchgjjfaanaa
open Go.RowKit
set_option maxHeartbeats 800000 in
theorem back_walk (l : List UInt8) (T : ByteArray) (z : Int) (w : World) (h1 : l.length ≤ 1048576) (h2 : T.size ≤ 2 * l.length) (h3 : l.length ≤ T.size)
    (P : Hid (∀ w, Calls Try.prog 13 #[.string ⟨l.toArray⟩, .int .i64 z] w fun e w' => e = .returned (.string T) ∧ Below w.heap.size w w'))
    (G : Hid (∀ w, Calls Try.prog 9 #[.string T] w fun e w' => e = .returned (.tuple #[.string ⟨l.toArray⟩, .int .i64 0]) ∧ Below w.heap.size w w'))
    (hT : Hid (∀ k (h : k < T.size), T[k] ≠ 126 ∧ (decide (T[k].toNat < 32) && Stf.mb z T[k].toNat) = false)) :
    Calls Try.prog 4 #[.string ⟨l.toArray⟩, .int .i64 z] w fun e w' => e = .returned (.bool true) ∧ Below w.heap.size w w' := by
  have h4 : (T.size : Int) ≤ 2 * (l.length : Int) := by omega
  have hll : (l == l) = true := by simp
  go_enter Try.func4, Try.ntmps4
  go_wp2_with fail
  refine (awake_any _).mono ?_
  rintro e w0 ⟨rfl, hb0⟩
  have B0 := Lib.hid hb0
  clear hb0
  go_wp2_with fail
  refine (P.out _).mono ?_
  rintro e w1 ⟨rfl, hb1⟩
  have B1 := Lib.hid (bel2 B0.out hb1)
  clear hb1
  go_wp2_with fail
  refine (G.out _).mono ?_
  rintro e w2 ⟨rfl, hb2⟩
  have B2 := Lib.hid (bel2 B1.out hb2)
  clear hb2
  go_wp2_with fail
  go_loop [8] (fun i => ∃ k : Nat, k ≤ T.size ∧ i = .int .i64 k) (fun i => T.size - (intOf i).toNat)
  case atStart => exact ⟨0, by omega, rfl⟩
  case round =>
    obtain ⟨k, hk, rfl⟩ := hrel
    by_cases hlt : k < T.size
    · have q1 : ((T[k].toNat : Int) == 126) = false := byte_ne _ 126 (hT.out k hlt).1
      by_cases h32 : T[k].toNat < 32
      · have q2 : (bits BinOp.and IntKind.u64 (IntKind.u64.wrap z / 2 ^ T[k].toNat) 1 == 1) = false := by
          have h := (hT.out k hlt).2
          rw [decide_eq_true h32, Bool.true_and] at h
          rw [low_u64 z _ h32]
          unfold Stf.mb at h
          simpa using h
        go_wp2_with fail
        go_round
        case rel => exact ⟨k + 1, by omega, by go_num⟩
        case measure => simp [intOf]; omega
      · have h33 : 32 ≤ T[k].toNat := by omega
        clear h32
        go_wp2_with fail
        go_round
        case rel => exact ⟨k + 1, by omega, by go_num⟩
        case measure => simp [intOf]; omega
    · obtain rfl : k = T.size := by omega
      go_wp2_with (go_at_call 15; refine (num_any _ _).mono ?_; rintro e w9 ⟨rfl, rfl⟩)
      go_ret
      exact ⟨rfl, B2.out⟩
theorem walk_back (s : ByteArray) (z : Int) (w : World) (hs : s.size ≤ 1048576) (_hz : (Lit.int .i64 z).wf = true) :
    Calls Try.prog 4 #[.string s, .int .i64 z] w fun e w' => e = .returned (.bool true) ∧ Below w.heap.size w w' := by
  obtain ⟨l, rfl⟩ : ∃ l : List UInt8, s = ⟨l.toArray⟩ := ⟨s.data.toList, by simp⟩
  rw [sz] at hs
  have hl := Stf.put_length z l
  have g := fun w => get_list (Stf.put z l) w (by omega)
  rw [Stf.get_put] at g
  refine back_walk l ⟨(Stf.put z l).toArray⟩ z w hs (by rw [sz]; omega) (by rw [sz]; omega) (Lib.hid fun w => put_list l z w (by omega)) (Lib.hid g) (Lib.hid fun k h => ?_)
  have hm := at_mem ⟨(Stf.put z l).toArray⟩ k h
  exact Stf.put_stands z l _ (by simpa using hm)
end Go.Proofs.Ytpbmchgjjfaanaa
