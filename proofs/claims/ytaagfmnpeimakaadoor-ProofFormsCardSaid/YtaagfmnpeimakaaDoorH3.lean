/-
  Contracts: which codes have a value, whether a message holds its own, what is wrong with a message.
-/
import Derived.Test.YtaagfmnpeimakaaDoorHMath
import Derived.Test.YtaagfmnpeimakaaDoorText
import Derived.Test.YtaagfmnpeimakaaDoorBox2
namespace Go.Proofs.YtaagfmnpeimakaaDoor.H
open Go.RowKit
theorem hasv_any (c : Int) (W : World) : Calls Tryd.prog 43 #[.int .i64 c] W fun e w' => e = .returned (.bool (Chp.val c)) ∧ W = w' := by
  by_cases h1 : c = 1
  · subst h1
    rw [show Chp.val 1 = true from rfl]
    go_enter Tryd.func43, Tryd.ntmps43
    go_wp2_with fail
    go_ret
    exact ⟨rfl, rfl⟩
  · have e1 : (c == 1) = false := by simpa using h1
    have ev : Chp.val c = (c == 2) := by unfold Chp.val; rw [decide_eq_false h1, Bool.false_or]; rfl
    rw [ev]
    clear h1 ev
    go_enter Tryd.func43, Tryd.ntmps43
    go_wp2_with fail
    go_ret
    exact ⟨rfl, rfl⟩
set_option maxHeartbeats 400000 in
theorem holds_any (c i : Int) (v n : List UInt8) (w : World) (hl : v.length ≤ 4611686018427387904) :
    Calls Tryd.prog 48 #[.agg #[.int .i64 c, .int .i64 i, .string ⟨v.toArray⟩, .string ⟨n.toArray⟩]] w fun e w' => e = .returned (.bool (Chp.holds c v)) ∧ Below w.heap.size w w' := by
  have V := fun W => hasv_any c W
  have HB := Lib.hid ((Below.refl w.heap.size w).alloc (Nat.le_refl _) (.cells #[.int .i64 c, .int .i64 i, .string ⟨v.toArray⟩, .string ⟨n.toArray⟩] 33))
  unfold Chp.holds
  cases hv : Chp.val c
  · rw [hv] at V
    have V := Lib.hid V
    rw [if_neg (by simp)]
    clear hv
    go_enter Tryd.func48, Tryd.ntmps48
    go_wp2_with (refine (V.out _).mono ?_; rintro e w1 ⟨rfl, rfl⟩)
    go_ret
    exact ⟨rfl, HB.out⟩
  · rw [hv] at V
    have V := Lib.hid V
    rw [if_pos rfl]
    clear hv
    by_cases h1 : 1 ≤ v.length
    · have e1 : decide ((1 : Int) ≤ (v.length : Int)) = true := decide_eq_true (by omega)
      have e3 : (decide (1 ≤ v.length) && decide (v.length ≤ 255)) = decide ((v.length : Int) ≤ 255) := by
        rw [decide_eq_true h1, Bool.true_and]
        exact decide_eq_decide.2 (by omega)
      rw [e3]
      clear h1 e3
      go_enter Tryd.func48, Tryd.ntmps48
      go_wp2_with (refine (V.out _).mono ?_; rintro e w1 ⟨rfl, rfl⟩)
      go_ret
      exact ⟨rfl, HB.out⟩
    · have e1 : decide ((1 : Int) ≤ (v.length : Int)) = false := decide_eq_false (by omega)
      have e3 : (decide (1 ≤ v.length) && decide (v.length ≤ 255)) = false := by rw [decide_eq_false h1, Bool.false_and]
      rw [e3]
      clear h1 e3
      go_enter Tryd.func48, Tryd.ntmps48
      go_wp2_with (refine (V.out _).mono ?_; rintro e w1 ⟨rfl, rfl⟩)
      go_ret
      exact ⟨rfl, HB.out⟩
set_option maxHeartbeats 400000 in
theorem judge_kind (c i : Int) (v n : ByteArray) (w : World) (h : c < 1 ∨ 4 < c) :
    Calls Tryd.prog 42 #[.agg #[.int .i64 c, .int .i64 i, .string v, .string n]] w fun e w' => e = .returned (.int .i64 600) ∧ Below w.heap.size w w' := by
  have HB := Lib.hid ((Below.refl w.heap.size w).alloc (Nat.le_refl _) (.cells #[.int .i64 c, .int .i64 i, .string v, .string n] 33))
  by_cases h1 : c < 1
  · clear h
    go_enter Tryd.func42, Tryd.ntmps42
    go_wp2_with fail
    go_ret
    exact ⟨rfl, HB.out⟩
  · have h2 : 4 < c := by omega
    clear h
    go_enter Tryd.func42, Tryd.ntmps42
    go_wp2_with fail
    go_ret
    exact ⟨rfl, HB.out⟩
set_option maxHeartbeats 400000 in
theorem judge_id (c i m : Int) (v n : ByteArray) (w : World) (h1 : 1 ≤ c) (h2 : c ≤ 4) (h0 : i % 256 = m) (hi : (i != m) = true) :
    Calls Tryd.prog 42 #[.agg #[.int .i64 c, .int .i64 i, .string v, .string n]] w fun e w' => e = .returned (.int .i64 600) ∧ Below w.heap.size w w' := by
  have HB := Lib.hid ((Below.refl w.heap.size w).alloc (Nat.le_refl _) (.cells #[.int .i64 c, .int .i64 i, .string v, .string n] 33))
  go_enter Tryd.func42, Tryd.ntmps42
  go_wp2_with fail
  go_ret
  exact ⟨rfl, HB.out⟩
set_option maxHeartbeats 400000 in
theorem judge_value (c i m : Int) (v n : ByteArray) (w : World) (h1 : 1 ≤ c) (h2 : c ≤ 4) (h0 : i % 256 = m) (hi : (i != m) = false)
    (H : Hid (∀ W, Calls Tryd.prog 48 #[.agg #[.int .i64 c, .int .i64 i, .string v, .string n]] W fun e w' => e = .returned (.bool false) ∧ Below W.heap.size W w')) :
    Calls Tryd.prog 42 #[.agg #[.int .i64 c, .int .i64 i, .string v, .string n]] w fun e w' => e = .returned (.int .i64 600) ∧ Below w.heap.size w w' := by
  have HB := Lib.hid ((Below.refl w.heap.size w).alloc (Nat.le_refl _) (.cells #[.int .i64 c, .int .i64 i, .string v, .string n] 33))
  go_enter Tryd.func42, Tryd.ntmps42
  go_wp2_with fail
  refine (H.out _).mono ?_
  rintro e w1 ⟨rfl, hb1⟩
  have B1 := Lib.hid (bel2 HB.out hb1)
  clear hb1
  go_wp2_with fail
  go_ret
  exact ⟨rfl, B1.out⟩
set_option maxHeartbeats 400000 in
theorem judge_name (c i m : Int) (v n : ByteArray) (w : World) (h1 : 1 ≤ c) (h2 : c ≤ 4) (h0 : i % 256 = m) (hi : (i != m) = false)
    (H : Hid (∀ W, Calls Tryd.prog 48 #[.agg #[.int .i64 c, .int .i64 i, .string v, .string n]] W fun e w' => e = .returned (.bool true) ∧ Below W.heap.size W w')) :
    Calls Tryd.prog 42 #[.agg #[.int .i64 c, .int .i64 i, .string v, .string n]] w fun e w' => e = .returned (.int .i64 (if n.size ≤ 253 then 0 else 601)) ∧ Below w.heap.size w w' := by
  have HX := Lib.hid (Box.new w [.int .i64 c, .int .i64 i, .string v, .string n] 33)
  have HB := Lib.hid ((Below.refl w.heap.size w).alloc (Nat.le_refl _) (.cells #[.int .i64 c, .int .i64 i, .string v, .string n] 33))
  by_cases hn : n.size ≤ 253
  · rw [if_pos hn]
    go_enter Tryd.func42, Tryd.ntmps42
    go_wp2_with fail
    refine (H.out _).mono ?_
    rintro e w1 ⟨rfl, hb1⟩
    have B1 := Lib.hid (bel2 HB.out hb1)
    have X1 := Lib.hid (HX.out.below hb1)
    have k3 := X1.out 3 _ rfl
    clear hb1
    go_wp2_with fail
    go_ret
    exact ⟨rfl, B1.out⟩
  · rw [if_neg hn]
    have hn2 : 253 < n.size := by omega
    clear hn
    go_enter Tryd.func42, Tryd.ntmps42
    go_wp2_with fail
    refine (H.out _).mono ?_
    rintro e w1 ⟨rfl, hb1⟩
    have B1 := Lib.hid (bel2 HB.out hb1)
    have X1 := Lib.hid (HX.out.below hb1)
    have k3 := X1.out 3 _ rfl
    clear hb1
    go_wp2_with fail
    go_ret
    exact ⟨rfl, B1.out⟩
theorem kind_in (c : Int) (h : Chp.kind c = true) : 1 ≤ c ∧ c ≤ 4 := by simpa [Chp.kind] using h
theorem kind_out (c : Int) (h : Chp.kind c = false) : c < 1 ∨ 4 < c := by
  unfold Chp.kind at h
  rw [Bool.and_eq_false_iff, decide_eq_false_iff_not, decide_eq_false_iff_not] at h
  omega
theorem byte_in (c : Int) (h : Chp.byte c = true) : 0 ≤ c ∧ c ≤ 255 := by simpa [Chp.byte] using h
theorem byte_out (c : Int) (h : Chp.byte c = false) : c < 0 ∨ 255 < c := by
  unfold Chp.byte at h
  rw [Bool.and_eq_false_iff, decide_eq_false_iff_not, decide_eq_false_iff_not] at h
  omega
/-- The contract of judge. -/
theorem judge_any (c i : Int) (v n : List UInt8) (w : World) (hl : v.length ≤ 4611686018427387904) :
    Calls Tryd.prog 42 #[.agg #[.int .i64 c, .int .i64 i, .string ⟨v.toArray⟩, .string ⟨n.toArray⟩]] w fun e w' => e = .returned (.int .i64 (Chp.code (c, i, v, n))) ∧ Below w.heap.size w w' := by
  have H := fun W => holds_any c i v n W hl
  rcases Chp.code_ways c i v n with ⟨h1, e⟩ | ⟨h1, h2, e⟩ | ⟨h1, h2, h3, e⟩ | ⟨h1, h2, h3, h4, e⟩ | ⟨h1, h2, h3, h4, e⟩
  · rw [e]
    exact judge_kind c i _ _ w (kind_out c h1)
  · rw [e]
    obtain ⟨g1, g2⟩ := kind_in c h1
    refine judge_id c i _ _ _ w g1 g2 rfl ?_
    have := byte_out i h2
    rw [bne_iff_ne]; omega
  · rw [e]
    rw [h3] at H
    obtain ⟨g1, g2⟩ := kind_in c h1
    have := byte_in i h2
    exact judge_value c i i _ _ w g1 g2 (by omega) (by simp) (Lib.hid H)
  · rw [e]
    rw [h3] at H
    obtain ⟨g1, g2⟩ := kind_in c h1
    have := byte_in i h2
    have g := judge_name c i i _ _ w g1 g2 (by omega) (by simp) (Lib.hid H)
    rwa [if_neg (by rw [sz]; omega)] at g
  · rw [e]
    rw [h3] at H
    obtain ⟨g1, g2⟩ := kind_in c h1
    have := byte_in i h2
    have g := judge_name c i i _ _ w g1 g2 (by omega) (by simp) (Lib.hid H)
    rwa [if_pos (by rw [sz]; omega)] at g
end Go.Proofs.YtaagfmnpeimakaaDoor.H
