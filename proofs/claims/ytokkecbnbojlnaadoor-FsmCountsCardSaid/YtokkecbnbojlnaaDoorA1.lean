/-
  The walk of the law of any state and event.
-/
import Derived.Test.YtokkecbnbojlnaaDoorU9
import Derived.Test.YtokkecbnbojlnaaDoorU3
namespace Go.Proofs.YtokkecbnbojlnaaDoor.U
open Go.RowKit
theorem place_short (s v : Int) : (Fsm.step s v).2.1.length ≤ 3 := by
  by_cases h : 0 ≤ s ∧ s ≤ 9 ∧ 0 ≤ v ∧ v ≤ 15
  · obtain ⟨s, rfl⟩ : ∃ n : Nat, s = n := ⟨s.toNat, by omega⟩
    obtain ⟨v, rfl⟩ : ∃ n : Nat, v = n := ⟨v.toNat, by omega⟩
    rw [Fsm.step_in s v (by omega) (by omega)]
    by_cases ht : Fsm.text s v = [45]
    · rw [Fsm.place_never s v (by omega) (by omega) ht]
      exact Nat.zero_le _
    · obtain ⟨t, L, _, hp, _, h3, _⟩ := Fsm.place_text s v (by omega) (by omega) ht
      rw [hp]
      exact h3
  · rw [Fsm.step_out s v h]
    exact Nat.zero_le _
set_option maxHeartbeats 1600000 in
theorem fsms_walk (s v t e0 : Int) (L : List Int) (hL : Hid (L.length ≤ 4611686018427387904)) (w : World) (ST : StepOk w)
    (S : Hid (∀ W, Below w.heap.size w W → Calls Tryd.prog 10 #[.int .i64 s, .int .i64 v] W (StepPost (t, L, e0) W)))
    (R : Hid (∀ W, Calls Tryd.prog 11 #[.int .i64 s, .int .i64 v] W (StepPost (t, L, e0) W))) :
    Calls Tryd.prog 3 #[.int .i64 s, .int .i64 v] w fun e w' => e = .returned (.bool true) ∧ Below w.heap.size w w' := by
  have qt : (t != t) = false := by simp
  have qe : (e0 != e0) = false := by simp
  go_enter Tryd.func3, Tryd.ntmps3
  go_wp2_with fail
  refine (S.out _ (Below.refl _ _)).mono ?_
  rintro e w1 ⟨p1, cap1, rfl, ho1⟩
  have B1 := Lib.hid ho1.2
  have C1 := Lib.hid ho1
  have K1 : Hid (∀ k, (Value.slice p1 L.length cap1).ownBlock = some k → w.heap.size ≤ k ∧ k < w1.heap.size) := Lib.hid fun k hk => C1.out.1.lt k hk
  clear ho1
  go_wp2_with fail
  refine (S.out _ B1.out).mono ?_
  rintro e w2 ⟨p2, cap2, rfl, ho2⟩
  have B2 := Lib.hid (bel2 B1.out ho2.2)
  have C2 := Lib.hid (C1.out.below ho2.2)
  have D2 := Lib.hid ho2
  have Z2 := Lib.hid ho2.2
  clear ho2
  go_wp2_with fail
  refine (R.out _).mono ?_
  rintro e w3 ⟨p3, cap3, rfl, ho3⟩
  have B3 := Lib.hid (bel2 B2.out ho3.2)
  have C3 := Lib.hid (C2.out.below ho3.2)
  have D3 := Lib.hid (D2.out.below ho3.2)
  have O3 := Lib.hid ho3
  have Z3 := Lib.hid (bel2 Z2.out ho3.2)
  clear ho3
  go_wp2_with (first | (go_at_call 13; refine (num_any _ _).mono ?_; rintro e w9 ⟨rfl, rfl⟩) | (go_at_call 12; refine (sameI_yes C3.out.reads O3.out.reads hL.out).mono ?_; rintro e w8 ⟨rfl, hb8⟩; have B8 := Lib.hid (bel2 B3.out hb8); have C8 := Lib.hid (C3.out.below hb8); have D8 := Lib.hid (D3.out.below hb8); have O8 := Lib.hid (O3.out.below hb8); clear hb8))
  refine (spoilI_any _ L w w8 C8.out hL.out).mono ?_
  rintro e wb ⟨rfl, hg⟩
  have BB := Lib.hid (B8.out.grown hg B8.out.size fun k hk => (K1.out k hk).1)
  have DB := Lib.hid (laterI (fun k hk => (K1.out k hk).2) D8.out hg)
  have OB := Lib.hid (laterI (fun k hk => Nat.lt_of_lt_of_le (K1.out k hk).2 Z2.out.size) O8.out hg)
  clear hg
  go_wp2_with (first | (go_at_call 12; refine (sameI_yes DB.out OB.out hL.out).mono ?_; rintro e wc ⟨rfl, hbc⟩; have BC := Lib.hid (bel2 BB.out hbc); clear hbc) | (refine (awake_any (ST.later BC.out)).mono ?_; rintro e wd ⟨rfl, hbd⟩; have BD := Lib.hid (bel2 BC.out hbd); clear hbd))
  go_ret
  exact ⟨rfl, BD.out⟩
theorem walk_fsms {w : World} (ST : StepOk w) (s v : Int) : Calls Tryd.prog 3 #[.int .i64 s, .int .i64 v] w fun e w' => e = .returned (.bool true) ∧ Below w.heap.size w w' := by
  have h := place_short s v
  exact fsms_walk s v (Fsm.step s v).1 (Fsm.step s v).2.2 (Fsm.step s v).2.1 (Lib.hid (by omega)) w ST (Lib.hid fun W hW => ST.out s v W hW) (Lib.hid fun W => ref_any s v W)
end Go.Proofs.YtokkecbnbojlnaaDoor.U
