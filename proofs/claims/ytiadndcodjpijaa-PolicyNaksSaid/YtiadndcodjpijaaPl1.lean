/-
  The document's own judge of options: which links may be.
-/
import Derived.Test.YtiadndcodjpijaaPlMath
import Derived.Test.YtiadndcodjpijaaNum
import Derived.Test.YtiadndcodjpijaaBox
import Derived.Deep.QuietTactic
import Derived.BigQuiet
import Derived.Deep.WholeRow
namespace Go.Proofs.Ytiadndcodjpijaa.Pl
open Go.RowKit
/-- A link as a value. -/
def lv (l : Pol.Lk) : Value := .agg #[.int .i64 l.mru, .int .i64 l.magic, .int .i64 l.mrru, .bool l.short, .string ⟨l.disc.toArray⟩, .int .i64 l.num]
theorem unit_any (x : Int) (w : World) : Calls Try.prog 29 #[.int .i64 x] w fun e w' => e = .returned (.bool (Pol.unit x)) ∧ w = w' := by
  have HU : Hid (Pol.unit x = (decide (128 ≤ x) && decide (x ≤ 1500))) := Lib.hid rfl
  by_cases h1 : 128 ≤ x
  · by_cases h2 : x ≤ 1500
    · have hu : Hid (Pol.unit x = true) := Lib.hid (by rw [HU.out, decide_eq_true h1, decide_eq_true h2]; rfl)
      go_enter Try.func29, Try.ntmps29
      go_wp2_with fail
      go_ret
      exact ⟨ret_bool hu.out.symm, rfl⟩
    · have hu : Hid (Pol.unit x = false) := Lib.hid (by rw [HU.out, decide_eq_false h2, Bool.and_false])
      have q : decide (x ≤ 1500) = false := decide_eq_false h2
      go_enter Try.func29, Try.ntmps29
      go_wp2_with fail
      go_ret
      exact ⟨ret_bool hu.out.symm, rfl⟩
  · have hu : Hid (Pol.unit x = false) := Lib.hid (by rw [HU.out, decide_eq_false h1]; rfl)
    have q : decide (128 ≤ x) = false := decide_eq_false h1
    go_enter Try.func29, Try.ntmps29
    go_wp2_with fail
    go_ret
    exact ⟨ret_bool hu.out.symm, rfl⟩
theorem size_any (x : Int) (w : World) : Calls Try.prog 25 #[.int .i64 x] w fun e w' => e = .returned (.bool (Pol.size x)) ∧ w = w' := by
  have U := Lib.hid fun W => unit_any x W
  have HU : Hid (Pol.size x = (x == 0 || Pol.unit x)) := Lib.hid rfl
  generalize Pol.unit x = u at *
  by_cases h0 : x = 0
  · have hu : Hid (Pol.size x = true) := Lib.hid (by rw [HU.out, h0]; rfl)
    have q : (x == 0) = true := by rw [beq_iff_eq]; exact h0
    go_enter Try.func25, Try.ntmps25
    go_wp2_with (refine (U.out _).mono ?_; rintro e w1 ⟨rfl, rfl⟩)
    go_ret
    exact ⟨ret_bool hu.out.symm, rfl⟩
  · have q : (x == 0) = false := by rw [beq_eq_false_iff_ne]; exact h0
    have hu : Hid (Pol.size x = u) := Lib.hid (by rw [HU.out, q]; rfl)
    go_enter Try.func25, Try.ntmps25
    go_wp2_with (refine (U.out _).mono ?_; rintro e w1 ⟨rfl, rfl⟩)
    go_ret
    exact ⟨ret_bool hu.out.symm, rfl⟩
set_option maxHeartbeats 1600000 in
theorem may_walk (a b c n : Int) (s r : Bool) (d : List UInt8) (b1 b2 : Bool) (w : World)
    (h : (b1 = false ∧ r = false) ∨ (b1 = true ∧ b2 = false ∧ r = false) ∨ (b1 = true ∧ b2 = true ∧ b < 0 ∧ r = false) ∨ (b1 = true ∧ b2 = true ∧ 0 ≤ b ∧ 4294967295 < b ∧ r = false) ∨ (b1 = true ∧ b2 = true ∧ 0 ≤ b ∧ b ≤ 4294967295 ∧ 20 < d.length ∧ r = false) ∨
      (b1 = true ∧ b2 = true ∧ 0 ≤ b ∧ b ≤ 4294967295 ∧ d.length ≤ 20 ∧ n < 0 ∧ r = false) ∨ (b1 = true ∧ b2 = true ∧ 0 ≤ b ∧ b ≤ 4294967295 ∧ d.length ≤ 20 ∧ 0 ≤ n ∧ r = decide (n ≤ 65535)))
    (S1 : Hid (∀ W, Calls Try.prog 25 #[.int .i64 a] W fun e w' => e = .returned (.bool b1) ∧ W = w'))
    (S2 : Hid (∀ W, Calls Try.prog 25 #[.int .i64 c] W fun e w' => e = .returned (.bool b2) ∧ W = w')) :
    Calls Try.prog 14 #[.agg #[.int .i64 a, .int .i64 b, .int .i64 c, .bool s, .string ⟨d.toArray⟩, .int .i64 n]] w fun e w' => e = .returned (.bool r) ∧ Below w.heap.size w w' := by
  have HB := Lib.hid ((Below.refl w.heap.size w).alloc (Nat.le_refl _) (.cells #[.int .i64 a, .int .i64 b, .int .i64 c, .bool s, .string ⟨d.toArray⟩, .int .i64 n] 23))
  have z := sz d
  rcases h with ⟨rfl, rfl⟩ | ⟨rfl, rfl, rfl⟩ | ⟨rfl, rfl, h1, rfl⟩ | ⟨rfl, rfl, h1, h2, rfl⟩ | ⟨rfl, rfl, h1, h2, h3, rfl⟩ | ⟨rfl, rfl, h1, h2, h3, h4, rfl⟩ | ⟨rfl, rfl, h1, h2, h3, h4, rfl⟩
  all_goals try have p1 : decide (0 ≤ b) = false := decide_eq_false (by omega)
  all_goals try have p2 : decide (b ≤ 4294967295) = false := decide_eq_false (by omega)
  all_goals try have p3 : decide ((d.length : Int) ≤ 20) = false := decide_eq_false (by omega)
  all_goals try have p4 : decide (0 ≤ n) = false := decide_eq_false (by omega)
  all_goals go_enter Try.func14, Try.ntmps14
  all_goals go_wp2_with (first | (go_at_call 25; with_reducible refine (S1.out _).mono ?_; rintro e w1 ⟨rfl, rfl⟩) | (go_at_call 25; with_reducible refine (S2.out _).mono ?_; rintro e w1 ⟨rfl, rfl⟩))
  all_goals go_ret
  all_goals exact ⟨rfl, HB.out⟩
theorem may_any (l : Pol.Lk) (w : World) : Calls Try.prog 14 #[lv l] w fun e w' => e = .returned (.bool (Pol.may l)) ∧ Below w.heap.size w w' := by
  obtain ⟨a, b, c, s, d, n⟩ := l
  refine may_walk a b c n s (Pol.may ⟨a, b, c, s, d, n⟩) d (Pol.size a) (Pol.size c) w ?_ (Lib.hid fun W => size_any a W) (Lib.hid fun W => size_any c W)
  have e : Pol.may ⟨a, b, c, s, d, n⟩ = (Pol.size a && Pol.size c && decide (0 ≤ b) && decide (b ≤ 4294967295) && decide (d.length ≤ 20) && decide (0 ≤ n) && decide (n ≤ 65535)) := rfl
  rw [e]
  cases Pol.size a <;> cases Pol.size c
  · exact .inl ⟨rfl, rfl⟩
  · exact .inl ⟨rfl, rfl⟩
  · exact .inr (.inl ⟨rfl, rfl, rfl⟩)
  · by_cases h1 : 0 ≤ b
    · by_cases h2 : b ≤ 4294967295
      · by_cases h3 : d.length ≤ 20
        · by_cases h4 : 0 ≤ n
          · exact .inr (.inr (.inr (.inr (.inr (.inr ⟨rfl, rfl, h1, h2, h3, h4, by simp [h1, h2, h3, h4]⟩)))))
          · exact .inr (.inr (.inr (.inr (.inr (.inl ⟨rfl, rfl, h1, h2, h3, by omega, by simp [h4]⟩)))))
        · exact .inr (.inr (.inr (.inr (.inl ⟨rfl, rfl, h1, h2, by omega, by simp [h3]⟩))))
      · exact .inr (.inr (.inr (.inl ⟨rfl, rfl, h1, by omega, by simp [h2]⟩)))
    · exact .inr (.inr (.inl ⟨rfl, rfl, by omega, by simp [h1]⟩))
end Go.Proofs.Ytiadndcodjpijaa.Pl
