/-
  The walk of the law of a time that is turned.
-/
import Derived.Test.YtjkkoojgdnoecaaYC
import Derived.Test.YtjkkoojgdnoecaaBits
namespace Go.Proofs.Ytjkkoojgdnoecaa.Y
open Go.RowKit
theorem turn_one (k a : Nat) : Tim.set [] k a = ([((k : Int), (a : Int))], 0) := by
  unfold Tim.set
  rw [if_neg (by omega)]
  rfl
theorem turn_two (k a b : Nat) : Tim.set [((k : Int), (a : Int))] k b = ([((k : Int), (b : Int))], 0) := by
  unfold Tim.set
  rw [if_neg (by omega), if_pos (by simp [Tim.has])]
  simp [Tim.del, Tim.ins]
theorem turn_stop (k b : Nat) : Tim.stop [((k : Int), (b : Int))] k = ([], 0) := by
  unfold Tim.stop
  rw [if_pos (by simp [Tim.has])]
  simp [Tim.del]
theorem turn_early (k b : Nat) : Tim.due [((k : Int), (b : Int))] ((b : Int) - 1) = ([((k : Int), (b : Int))], []) := Tim.due_end _ _ _ (by show ¬(b : Int) ≤ (b : Int) - 1; omega)
theorem turn_late (k b : Nat) : Tim.due [((k : Int), (b : Int))] (b : Int) = ([], [(k : Int)]) := by rw [Tim.due_step _ _ _ (by show (b : Int) ≤ (b : Int); omega)]; rfl
set_option maxRecDepth 100000 in
set_option maxHeartbeats 3200000 in
theorem turns_stop (x y z : Int) (w : World) : Calls Try.prog 7 #[.int .i64 x, .int .i64 y, .int .i64 z, .bool true] w fun e w' => e = .returned (.bool true) ∧ Below w.heap.size w w' := by
  obtain ⟨k, e1, _⟩ := low_1023 x
  obtain ⟨a, e2, _⟩ := low_1023 y
  obtain ⟨b, e3, _⟩ := low_1023 z
  go_enter Try.func7, Try.ntmps7
  go_wp2_with fail
  refine (awake_any _).mono ?_
  rintro e wa ⟨rfl, hba⟩
  have BA := Lib.hid hba
  clear hba
  go_wp2_with fail
  refine (t_new w wa BA.out).mono ?_
  rintro e w1 ⟨B, v1, rfl, h1, _, _⟩
  have H1 := Lib.hid h1
  clear h1
  go_wp2_with fail
  refine (t_set H1.out (turn_one k a)).mono ?_
  rintro e w2 ⟨rfl, v2, h2, _⟩
  have H2 := Lib.hid h2
  clear h2
  go_wp2_with fail
  refine (t_set H2.out (turn_two k a b)).mono ?_
  rintro e w3 ⟨rfl, v3, h3, _⟩
  have H3 := Lib.hid h3
  clear h3
  go_wp2_with fail
  refine (t_stop H3.out (turn_stop k b)).mono ?_
  rintro e w4 ⟨rfl, v4, h4, _⟩
  have H4 := Lib.hid h4
  clear h4
  go_wp2_with (first | (go_at_call 10; refine (num_any _ _).mono ?_; rintro e w9 ⟨rfl, rfl⟩) | (go_at_call 14; refine (t_due H4.out (now := 2000) (S' := []) (ids := []) rfl).mono ?_; rintro e w5 ⟨p5, cap5, v5, rfl, h5, _, _⟩; have H5 := Lib.hid h5; clear h5) | (go_at_call 18; refine (t_len H5.out (n := 0) rfl).mono ?_; rintro e w6 ⟨rfl, rfl⟩))
  go_ret
  exact ⟨rfl, H5.out.bel⟩
set_option maxRecDepth 100000 in
set_option maxHeartbeats 3200000 in
theorem turns_on (x y z : Int) (w : World) : Calls Try.prog 7 #[.int .i64 x, .int .i64 y, .int .i64 z, .bool false] w fun e w' => e = .returned (.bool true) ∧ Below w.heap.size w w' := by
  obtain ⟨k, e1, _⟩ := low_1023 x
  obtain ⟨a, e2, _⟩ := low_1023 y
  obtain ⟨b, e3, _⟩ := low_1023 z
  go_enter Try.func7, Try.ntmps7
  go_wp2_with fail
  refine (awake_any _).mono ?_
  rintro e wa ⟨rfl, hba⟩
  have BA := Lib.hid hba
  clear hba
  go_wp2_with fail
  refine (t_new w wa BA.out).mono ?_
  rintro e w1 ⟨B, v1, rfl, h1, _, _⟩
  have H1 := Lib.hid h1
  clear h1
  go_wp2_with fail
  refine (t_set H1.out (turn_one k a)).mono ?_
  rintro e w2 ⟨rfl, v2, h2, _⟩
  have H2 := Lib.hid h2
  clear h2
  go_wp2_with fail
  refine (t_set H2.out (turn_two k a b)).mono ?_
  rintro e w3 ⟨rfl, v3, h3, _⟩
  have H3 := Lib.hid h3
  clear h3
  go_wp2_with fail
  refine (t_due H3.out (turn_early k b)).mono ?_
  rintro e w4 ⟨p4, cap4, v4, rfl, h4, _, _⟩
  have H4 := Lib.hid h4
  clear h4
  go_wp2_with fail
  refine (t_due H4.out (turn_late k b)).mono ?_
  rintro e w5 ⟨p5, cap5, v5, rfl, h5, k5, _⟩
  have hA := (Below.refl w5.heap.size w5).alloc (Nat.le_refl _) (.cells #[.int .i64 (k : Int)] 3)
  have H5 := Lib.hid (bel2 h5.bel hA)
  have K5 := Lib.hid (k5.below hA)
  have L5 := Lib.hid (readsI_lit w5 _ rfl [(k : Int)] #[.int .i64 (k : Int)] rfl)
  clear h5 k5 hA
  go_wp2_with (first | (go_at_call 10; refine (num_any _ _).mono ?_; rintro e w9 ⟨rfl, rfl⟩) | (go_at_call 15; refine (sameI_yes K5.out.reads L5.out (by simp)).mono ?_; rintro e w9 ⟨rfl, hb9⟩; have B9 := Lib.hid (bel2 H5.out hb9); clear hb9))
  go_ret
  exact ⟨rfl, B9.out⟩
theorem walk_timerTurns (x y z : Int) (s : Bool) (w : World) (_ : (Lit.int .i64 x).wf = true) (_ : (Lit.int .i64 y).wf = true) (_ : (Lit.int .i64 z).wf = true) :
    Calls Try.prog 7 #[.int .i64 x, .int .i64 y, .int .i64 z, .bool s] w fun e w' => e = .returned (.bool true) ∧ Below w.heap.size w w' := by
  cases s
  · exact turns_on x y z w
  · exact turns_stop x y z w
end Go.Proofs.Ytjkkoojgdnoecaa.Y
