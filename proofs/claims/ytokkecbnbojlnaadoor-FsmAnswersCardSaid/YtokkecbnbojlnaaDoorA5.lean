/-
  The walk of the law of requests that are answered.
-/
import Derived.Test.YtokkecbnbojlnaaDoorU9
namespace Go.Proofs.YtokkecbnbojlnaaDoor.Fsm
theorem good (x : Nat) (hx : x < 4) : (place (6 + x) 6).2.2 = 0 ∧ (place (6 + x) 6).2.1.count 8 = 1 ∧ ((place (6 + x) 6).1 = 8 ∨ (place (6 + x) 6).1 = 9) := by
  have : ∀ x : Fin 4, (place (6 + x) 6).2.2 = 0 ∧ (place (6 + x) 6).2.1.count 8 = 1 ∧ ((place (6 + x) 6).1 = 8 ∨ (place (6 + x) 6).1 = 9) := by decide +kernel
  exact this ⟨x, hx⟩
theorem bad (x : Nat) (hx : x < 4) : (place (6 + x) 7).2.2 = 0 ∧ (place (6 + x) 7).2.1.count 9 = 1 ∧ ((place (6 + x) 7).1 = 6 ∨ (place (6 + x) 7).1 = 7) := by
  have : ∀ x : Fin 4, (place (6 + x) 7).2.2 = 0 ∧ (place (6 + x) 7).2.1.count 9 = 1 ∧ ((place (6 + x) 7).1 = 6 ∨ (place (6 + x) 7).1 = 7) := by decide +kernel
  exact this ⟨x, hx⟩
end Go.Proofs.YtokkecbnbojlnaaDoor.Fsm
namespace Go.Proofs.YtokkecbnbojlnaaDoor.U
open Go.RowKit
set_option maxHeartbeats 1600000 in
theorem ans_good {w : World} (ST : StepOk w) (z : Int) (x t : Nat) (L : List Int) (hz : wrap64 ((IntKind.u64.wrap z).tmod 4) = (x : Int)) (hx : x < 4) (hL : L.length ≤ 3) (ht : Hid (t = 8 ∨ t = 9)) (hc : Hid (L.count 8 = 1))
    (S : Hid (∀ W, Below w.heap.size w W → Calls Tryd.prog 10 #[.int .i64 (6 + (x : Int)), .int .i64 6] W (StepPost ((t : Int), L, 0) W))) :
    Calls Tryd.prog 8 #[.int .i64 z, .bool true] w fun e w' => e = .returned (.bool true) ∧ Below w.heap.size w w' := by
  go_enter Tryd.func8, Tryd.ntmps8
  go_wp2_with fail
  refine (awake_any ST).mono ?_
  rintro e wa ⟨rfl, hba⟩
  have BA := Lib.hid hba
  clear hba
  go_wp2_with fail
  refine (S.out _ BA.out).mono ?_
  rintro e w1 ⟨p1, cap1, rfl, ho1⟩
  have B1 := Lib.hid (bel2 BA.out ho1.2)
  obtain ⟨p, cap, b, off, hv, _, _, hi, hc0⟩ := ho1.reads.at
  simp only [Value.slice.injEq] at hv
  obtain ⟨rfl, _, rfl⟩ := hv
  have HI := Lib.hid hi
  have HC := Lib.hid hc0
  clear ho1 hi hc0
  go_wp2_with fail
  go_loopw [11, 12] (fun d i wr => ∃ k c : Nat, k ≤ L.length ∧ i = .int .i64 k ∧ d = .int .i64 c ∧ c ≤ k ∧ Hid ((L.take k).count 8 = c) ∧ Below w1.heap.size w1 wr) (fun _ i _ => L.length - (intOf i).toNat)
  case atStart => exact ⟨0, 0, by omega, rfl, rfl, by omega, Lib.hid rfl, Below.refl _ _⟩
  case round =>
    obtain ⟨k, c, hk, rfl, rfl, hck, HQ, hb⟩ := hrel
    have HB := Lib.hid hb
    clear hb
    by_cases hlt : k < L.length
    · have hi := HI.out k hlt
      have c0 := HC.out k hlt
      rw [← HB.out.cell (block_lt_of_cell c0)] at c0
      have HS : Hid ((L.take (k + 1)).count 8 = c + if L[k] == 8 then 1 else 0) := Lib.hid (by rw [List.take_succ_eq_append_getElem hlt, List.count_append, HQ.out, List.count_singleton])
      generalize L[k] = y at *
      obtain ⟨o8, ho8⟩ : ∃ o8, o8 = off + k := ⟨_, rfl⟩
      rw [← ho8] at hi c0
      clear ho8
      by_cases hy : y = 8
      · subst hy
        have HS2 : Hid ((L.take (k + 1)).count 8 = c + 1) := Lib.hid HS.out
        clear HS
        go_wp2_with fail
        go_roundw
        case rel => exact ⟨k + 1, c + 1, by omega, by go_num, by go_num, by omega, HS2, HB.out⟩
        case measure => simp [intOf]; omega
      · have hy2 : (y == 8) = false := by simpa using hy
        have HS2 : Hid ((L.take (k + 1)).count 8 = c) := Lib.hid (by have h := HS.out; rwa [hy2] at h)
        clear HS hy
        go_wp2_with fail
        go_roundw
        case rel => exact ⟨k + 1, c, by omega, by go_num, rfl, by omega, HS2, HB.out⟩
        case measure => simp [intOf]; omega
    · obtain rfl : k = L.length := by omega
      have hq := HQ.out
      rw [List.take_length, hc.out] at hq
      have B2 := Lib.hid (bel2 B1.out HB.out)
      have h := ht.out
      subst hq
      clear HQ hlt HC HI hck
      rcases h with rfl | rfl
      all_goals go_wp2_with (go_at_call 13; refine (num_any _ _).mono ?_; rintro e w9 ⟨rfl, rfl⟩)
      all_goals go_ret
      all_goals exact ⟨rfl, B2.out⟩
set_option maxHeartbeats 1600000 in
theorem ans_bad {w : World} (ST : StepOk w) (z : Int) (x t : Nat) (L : List Int) (hz : wrap64 ((IntKind.u64.wrap z).tmod 4) = (x : Int)) (hx : x < 4) (hL : L.length ≤ 3) (ht : Hid (t = 6 ∨ t = 7)) (hc : Hid (L.count 9 = 1))
    (S : Hid (∀ W, Below w.heap.size w W → Calls Tryd.prog 10 #[.int .i64 (6 + (x : Int)), .int .i64 7] W (StepPost ((t : Int), L, 0) W))) :
    Calls Tryd.prog 8 #[.int .i64 z, .bool false] w fun e w' => e = .returned (.bool true) ∧ Below w.heap.size w w' := by
  go_enter Tryd.func8, Tryd.ntmps8
  go_wp2_with fail
  refine (awake_any ST).mono ?_
  rintro e wa ⟨rfl, hba⟩
  have BA := Lib.hid hba
  clear hba
  go_wp2_with fail
  refine (S.out _ BA.out).mono ?_
  rintro e w1 ⟨p1, cap1, rfl, ho1⟩
  have B1 := Lib.hid (bel2 BA.out ho1.2)
  obtain ⟨p, cap, b, off, hv, _, _, hi, hc0⟩ := ho1.reads.at
  simp only [Value.slice.injEq] at hv
  obtain ⟨rfl, _, rfl⟩ := hv
  have HI := Lib.hid hi
  have HC := Lib.hid hc0
  clear ho1 hi hc0
  go_wp2_with fail
  go_loopw [11, 12] (fun d i wr => ∃ k c : Nat, k ≤ L.length ∧ i = .int .i64 k ∧ d = .int .i64 c ∧ c ≤ k ∧ Hid ((L.take k).count 9 = c) ∧ Below w1.heap.size w1 wr) (fun _ i _ => L.length - (intOf i).toNat)
  case atStart => exact ⟨0, 0, by omega, rfl, rfl, by omega, Lib.hid rfl, Below.refl _ _⟩
  case round =>
    obtain ⟨k, c, hk, rfl, rfl, hck, HQ, hb⟩ := hrel
    have HB := Lib.hid hb
    clear hb
    by_cases hlt : k < L.length
    · have hi := HI.out k hlt
      have c0 := HC.out k hlt
      rw [← HB.out.cell (block_lt_of_cell c0)] at c0
      have HS : Hid ((L.take (k + 1)).count 9 = c + if L[k] == 9 then 1 else 0) := Lib.hid (by rw [List.take_succ_eq_append_getElem hlt, List.count_append, HQ.out, List.count_singleton])
      generalize L[k] = y at *
      obtain ⟨o8, ho8⟩ : ∃ o8, o8 = off + k := ⟨_, rfl⟩
      rw [← ho8] at hi c0
      clear ho8
      by_cases hy : y = 9
      · subst hy
        have HS2 : Hid ((L.take (k + 1)).count 9 = c + 1) := Lib.hid HS.out
        clear HS
        go_wp2_with fail
        go_roundw
        case rel => exact ⟨k + 1, c + 1, by omega, by go_num, by go_num, by omega, HS2, HB.out⟩
        case measure => simp [intOf]; omega
      · have hy2 : (y == 9) = false := by simpa using hy
        have HS2 : Hid ((L.take (k + 1)).count 9 = c) := Lib.hid (by have h := HS.out; rwa [hy2] at h)
        clear HS hy
        go_wp2_with fail
        go_roundw
        case rel => exact ⟨k + 1, c, by omega, by go_num, rfl, by omega, HS2, HB.out⟩
        case measure => simp [intOf]; omega
    · obtain rfl : k = L.length := by omega
      have hq := HQ.out
      rw [List.take_length, hc.out] at hq
      have B2 := Lib.hid (bel2 B1.out HB.out)
      have h := ht.out
      subst hq
      clear HQ hlt HC HI hck
      rcases h with rfl | rfl
      all_goals go_wp2_with (go_at_call 13; refine (num_any _ _).mono ?_; rintro e w9 ⟨rfl, rfl⟩)
      all_goals go_ret
      all_goals exact ⟨rfl, B2.out⟩
theorem walk_fsmAnswers {w : World} (ST : StepOk w) (z : Int) (o : Bool) : Calls Tryd.prog 8 #[.int .i64 z, .bool o] w fun e w' => e = .returned (.bool true) ∧ Below w.heap.size w w' := by
  obtain ⟨x, hz, hx⟩ := by_mod z 4 (by decide) (by decide)
  have hx : x < 4 := by omega
  cases o
  · obtain ⟨t, L, e, _, hL, hp, _, S⟩ := ST.place (6 + x) 7 (by omega) (by decide)
    obtain ⟨h2, h3, h4⟩ := Fsm.bad x hx
    rw [hp] at h2 h3 h4
    simp only at h2 h3 h4
    subst h2
    refine ans_bad ST z x t L hz hx hL (Lib.hid (by omega)) (Lib.hid h3) (Lib.hid fun W hW => ?_)
    have h := S.out W hW
    rwa [Int.natCast_add] at h
  · obtain ⟨t, L, e, _, hL, hp, _, S⟩ := ST.place (6 + x) 6 (by omega) (by decide)
    obtain ⟨h2, h3, h4⟩ := Fsm.good x hx
    rw [hp] at h2 h3 h4
    simp only at h2 h3 h4
    subst h2
    refine ans_good ST z x t L hz hx hL (Lib.hid (by omega)) (Lib.hid h3) (Lib.hid fun W hW => ?_)
    have h := S.out W hW
    rwa [Int.natCast_add] at h
end Go.Proofs.YtokkecbnbojlnaaDoor.U
