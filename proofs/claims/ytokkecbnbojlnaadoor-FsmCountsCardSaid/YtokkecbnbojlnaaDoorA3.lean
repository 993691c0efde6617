/-
  The walk of the law of a layer that is closed.
-/
import Derived.Test.YtokkecbnbojlnaaDoorU9
namespace Go.Proofs.YtokkecbnbojlnaaDoor.Fsm
/-- Where the last try's end leads to. -/
def over (t : Nat) : Nat := if (place t 5).2.2 = 0 then (place t 5).1.toNat else t
theorem rest (s : Nat) (hs : s < 10) : (place s 3).2.2 = 0 ∧ (over (over (over (place s 3).1.toNat)) = 0 ∨ over (over (over (place s 3).1.toNat)) = 2 ∨ over (over (over (place s 3).1.toNat)) = 3) := by
  have : ∀ s : Fin 10, (place s 3).2.2 = 0 ∧ (over (over (over (place s 3).1.toNat)) = 0 ∨ over (over (over (place s 3).1.toNat)) = 2 ∨ over (over (over (place s 3).1.toNat)) = 3) := by decide +kernel
  exact this ⟨s, hs⟩
end Go.Proofs.YtokkecbnbojlnaaDoor.Fsm
namespace Go.Proofs.YtokkecbnbojlnaaDoor.U
open Go.RowKit
set_option maxHeartbeats 1600000 in
theorem walk_fsmEnds {w : World} (ST : StepOk w) (z : Int) : Calls Tryd.prog 6 #[.int .i64 z] w fun e w' => e = .returned (.bool true) ∧ Below w.heap.size w w' := by
  obtain ⟨s, hz, hs⟩ := by_mod z 10 (by decide) (by decide)
  have hs : s < 10 := by omega
  obtain ⟨t0, L0, e0, ht0, _, hp0, _, S0⟩ := ST.place s 3 hs (by decide)
  obtain ⟨hc, hr⟩ := Fsm.rest s hs
  rw [hp0] at hc hr
  obtain rfl : e0 = 0 := hc
  have HR : Hid (Nat.repeat Fsm.over 3 t0 = 0 ∨ Nat.repeat Fsm.over 3 t0 = 2 ∨ Nat.repeat Fsm.over 3 t0 = 3) := Lib.hid hr
  have S5 : Hid (∀ t : Nat, t ≤ 9 → ∃ (u : Nat) (L : List Int) (e : Int), u ≤ 9 ∧ (e = 0 ∧ Fsm.over t = u ∨ e = 1001 ∧ Fsm.over t = t) ∧ Hid (∀ W, Below w.heap.size w W → Calls Tryd.prog 10 #[.int .i64 (t : Int), .int .i64 5] W (StepPost ((u : Int), L, e) W))) := Lib.hid fun t ht => by
    obtain ⟨u, L, e, hu, _, hp, he, S⟩ := ST.place t 5 (by omega) (by decide)
    refine ⟨u, L, e, hu, ?_, S⟩
    unfold Fsm.over
    rw [hp]
    rcases he with rfl | ⟨rfl, _⟩
    · exact .inl ⟨rfl, by simp⟩
    · exact .inr ⟨rfl, by simp⟩
  clear hp0 hr hs
  go_enter Tryd.func6, Tryd.ntmps6
  go_wp2_with fail
  refine (awake_any ST).mono ?_
  rintro e wa ⟨rfl, hba⟩
  have BA := Lib.hid hba
  clear hba
  go_wp2_with fail
  refine (S0.out _ BA.out).mono ?_
  rintro e w1 ⟨p1, cap1, rfl, ho1⟩
  have B1 := Lib.hid (bel2 BA.out ho1.2)
  clear ho1
  go_wp2_with (go_at_call 13; refine (num_any _ _).mono ?_; rintro e w9 ⟨rfl, rfl⟩)
  go_loopw [4, 7] (fun t i wr => ∃ k x : Nat, k ≤ 3 ∧ i = .int .i64 k ∧ t = .int .i64 (x : Int) ∧ Hid (x = Nat.repeat Fsm.over k t0) ∧ x ≤ 9 ∧ Below w.heap.size w wr) (fun _ i _ => 3 - (intOf i).toNat)
  case atStart => exact ⟨0, t0, by omega, rfl, rfl, Lib.hid rfl, ht0, B1.out⟩
  case round =>
    obtain ⟨k, x, hk, rfl, rfl, HX, hx, hb⟩ := hrel
    have HB := Lib.hid hb
    clear hb
    by_cases hlt : k < 3
    · obtain ⟨u, L, e, hu, he, S⟩ := S5.out x hx
      rcases he with ⟨rfl, hq⟩ | ⟨rfl, hq⟩
      · have HN : Hid (u = Nat.repeat Fsm.over (k + 1) t0) := Lib.hid (by rw [← hq, HX.out]; rfl)
        clear hq
        go_wp2_with fail
        refine (S.out _ HB.out).mono ?_
        rintro e w2 ⟨p2, cap2, rfl, ho2⟩
        have B2 := Lib.hid (bel2 HB.out ho2.2)
        clear ho2
        go_wp2_with (go_at_call 13; refine (num_any _ _).mono ?_; rintro e w9 ⟨rfl, rfl⟩)
        go_roundw
        case rel => exact ⟨k + 1, u, by omega, by go_num, rfl, HN, hu, B2.out⟩
        case measure => simp [intOf]; omega
      · have HN : Hid (x = Nat.repeat Fsm.over (k + 1) t0) := Lib.hid (by rw [← hq, HX.out]; rfl)
        clear hq
        go_wp2_with fail
        refine (S.out _ HB.out).mono ?_
        rintro e w2 ⟨p2, cap2, rfl, ho2⟩
        have B2 := Lib.hid (bel2 HB.out ho2.2)
        clear ho2
        go_wp2_with (go_at_call 13; refine (num_any _ _).mono ?_; rintro e w9 ⟨rfl, rfl⟩)
        go_roundw
        case rel => exact ⟨k + 1, x, by omega, by go_num, rfl, HN, hx, B2.out⟩
        case measure => simp [intOf]; omega
    · obtain rfl : k = 3 := by omega
      have h := HR.out
      rw [← HX.out] at h
      clear HX hlt
      rcases h with rfl | rfl | rfl
      · go_wp2_with fail
        go_ret
        exact ⟨rfl, HB.out⟩
      · go_wp2_with fail
        go_ret
        exact ⟨rfl, HB.out⟩
      · go_wp2_with fail
        go_ret
        exact ⟨rfl, HB.out⟩
end Go.Proofs.YtokkecbnbojlnaaDoor.U
