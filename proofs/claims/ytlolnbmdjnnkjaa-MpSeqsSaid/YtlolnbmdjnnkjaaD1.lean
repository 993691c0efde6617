/-
  Contracts of what tells the two heads apart; a head's number out of its fields.
-/
import Derived.Test.YtlolnbmdjnnkjaaDMath
import Derived.Test.YtlolnbmdjnnkjaaBox
import Derived.Laws.BitsAllLaws
namespace Go.Proofs.Ytlolnbmdjnnkjaa.D
open Go.RowKit
/-- The cells of a head: its size, the two marks, the number's bits. -/
abbrev cellsOf (short : Bool) : List Value := if short = true then [.int .i64 2, .int .u32 32768, .int .u32 16384, .int .u32 4095] else [.int .i64 4, .int .u32 2147483648, .int .u32 1073741824, .int .u32 16777215]
theorem head_any (short : Bool) (w : World) : Calls Try.prog 13 #[.bool short] w fun e w' => e = .returned (.agg (cellsOf short).toArray) ∧ Below w.heap.size w w' := by
  cases short
  · have HB := Lib.hid ((Below.refl w.heap.size w).alloc (Nat.le_refl _) (.cells #[.int .i64 4, .int .u32 2147483648, .int .u32 1073741824, .int .u32 16777215] 41))
    go_enter Try.func13, Try.ntmps13
    go_wp2_with fail
    refine bodyPost_ret (v := .agg #[.int .i64 4, .int .u32 2147483648, .int .u32 1073741824, .int .u32 16777215]) (by simp [results, Try.results13, go_sem]) rfl ⟨rfl, HB.out⟩
  · have HB := Lib.hid ((Below.refl w.heap.size w).alloc (Nat.le_refl _) (.cells #[.int .i64 2, .int .u32 32768, .int .u32 16384, .int .u32 4095] 41))
    go_enter Try.func13, Try.ntmps13
    go_wp2_with fail
    refine bodyPost_ret (v := .agg #[.int .i64 2, .int .u32 32768, .int .u32 16384, .int .u32 4095]) (by simp [results, Try.results13, go_sem]) rfl ⟨rfl, HB.out⟩
theorem long_any (s : ByteArray) (w : World) : Calls Try.prog 14 #[.string s] w fun e w' => e = .returned (.bool (decide (2048 < (s.size : Int)))) ∧ w = w' := by
  go_enter Try.func14, Try.ntmps14
  go_wp2_with fail
  go_ret
  exact ⟨rfl, rfl⟩
theorem ring_any (short : Bool) (w : World) : Calls Try.prog 16 #[.bool short] w fun e w' => e = .returned (.int .i64 (Mph.ring short)) ∧ w = w' := by
  cases short <;>
  · go_enter Try.func16, Try.ntmps16
    go_wp2_with fail
    go_ret
    exact ⟨rfl, rfl⟩
set_option maxHeartbeats 800000 in
theorem number_walk (sz B E Q q : Int) (b e : Bool) (s : ByteArray) (w : World) :
    Calls Try.prog 15 #[.agg #[.int .i64 sz, .int .u32 B, .int .u32 E, .int .u32 Q], .agg #[.bool b, .bool e, .int .i64 q, .string s]] w fun r w' =>
      r = .returned (.int .u32 (if e = true then bits .or .u32 (if b = true then bits .or .u32 (q % 4294967296) B else q % 4294967296) E else if b = true then bits .or .u32 (q % 4294967296) B else q % 4294967296)) ∧ Below w.heap.size w w' := by
  have HB := Lib.hid (((Below.refl w.heap.size w).alloc (Nat.le_refl _) (.cells #[.int .i64 sz, .int .u32 B, .int .u32 E, .int .u32 Q] 41)).alloc (by simp) (.cells #[.bool b, .bool e, .int .i64 q, .string s] 23))
  cases b <;> cases e <;>
  · go_enter Try.func15, Try.ntmps15
    go_wp2_with fail
    go_ret
    exact ⟨rfl, HB.out⟩
theorem number_any (short b e : Bool) (n : Nat) (hn : n < Mph.ring short) (s : ByteArray) (w : World) :
    Calls Try.prog 15 #[.agg (cellsOf short).toArray, .agg #[.bool b, .bool e, .int .i64 n, .string s]] w fun r w' => r = .returned (.int .u32 (Mph.numb short b e n)) ∧ Below w.heap.size w w' := by
  have h24 : n < 16777216 := by cases short <;> simp [Mph.ring] at hn <;> omega
  have e0 : (n : Int) % 4294967296 = (n : Int) := by omega
  cases short
  · have h := number_walk 4 2147483648 1073741824 16777215 n b e s w
    have e1 : bits .or .u32 (n : Int) 2147483648 = ((n + 2147483648 : Nat) : Int) := by
      have := u32_or_nat n 2147483648 (by omega) (by omega)
      rw [Nat.or_comm, nat_join 31 2147483648 n (by decide) (by omega)] at this
      rw [Nat.add_comm]; exact this
    have e2 : bits .or .u32 (n : Int) 1073741824 = ((n + 1073741824 : Nat) : Int) := by
      have := u32_or_nat n 1073741824 (by omega) (by omega)
      rw [Nat.or_comm, nat_join 30 1073741824 n (by decide) (by omega)] at this
      rw [Nat.add_comm]; exact this
    have e3 : bits .or .u32 ((n + 2147483648 : Nat) : Int) 1073741824 = ((n + 3221225472 : Nat) : Int) := by
      have := u32_or_nat (n + 2147483648) 1073741824 (by omega) (by omega)
      rw [show n + 2147483648 = 2147483648 + n by omega, ← nat_join 31 2147483648 n (by decide) (by omega), Nat.or_assoc, Nat.or_comm n, ← Nat.or_assoc, show (2147483648 ||| 1073741824 : Nat) = 3221225472 from rfl, nat_join 30 3221225472 n (by decide) (by omega), nat_join 31 2147483648 n (by decide) (by omega)] at this
      rw [show n + 2147483648 = 2147483648 + n by omega, show n + 3221225472 = 3221225472 + n by omega]; exact this
    rw [e0] at h
    cases b <;> cases e <;> simp only [Bool.false_eq_true, if_false, if_true, e1, e2, e3] at h <;> simp only [Mph.numb, Mph.mark, Mph.unit, Bool.false_eq_true, if_false, if_true, cellsOf]
    · simpa using h
    · rw [show (0 + 64) * 16777216 + n = n + 1073741824 by omega]; exact h
    · rw [show (128 + 0) * 16777216 + n = n + 2147483648 by omega]; exact h
    · rw [show (128 + 64) * 16777216 + n = n + 3221225472 by omega]; exact h
  · have h := number_walk 2 32768 16384 4095 n b e s w
    have hn2 : n < 4096 := hn
    have e1 : bits .or .u32 (n : Int) 32768 = ((n + 32768 : Nat) : Int) := by
      have := u32_or_nat n 32768 (by omega) (by omega)
      rw [Nat.or_comm, nat_join 15 32768 n (by decide) (by omega)] at this
      rw [Nat.add_comm]; exact this
    have e2 : bits .or .u32 (n : Int) 16384 = ((n + 16384 : Nat) : Int) := by
      have := u32_or_nat n 16384 (by omega) (by omega)
      rw [Nat.or_comm, nat_join 14 16384 n (by decide) (by omega)] at this
      rw [Nat.add_comm]; exact this
    have e3 : bits .or .u32 ((n + 32768 : Nat) : Int) 16384 = ((n + 49152 : Nat) : Int) := by
      have := u32_or_nat (n + 32768) 16384 (by omega) (by omega)
      rw [show n + 32768 = 32768 + n by omega, ← nat_join 15 32768 n (by decide) (by omega), Nat.or_assoc, Nat.or_comm n, ← Nat.or_assoc, show (32768 ||| 16384 : Nat) = 49152 from rfl, nat_join 14 49152 n (by decide) (by omega), nat_join 15 32768 n (by decide) (by omega)] at this
      rw [show n + 32768 = 32768 + n by omega, show n + 49152 = 49152 + n by omega]; exact this
    rw [e0] at h
    cases b <;> cases e <;> simp only [Bool.false_eq_true, if_false, if_true, e1, e2, e3] at h <;> simp only [Mph.numb, Mph.mark, Mph.unit, Bool.false_eq_true, if_false, if_true, cellsOf]
    · simpa using h
    · rw [show (0 + 64) * 256 + n = n + 16384 by omega]; exact h
    · rw [show (128 + 0) * 256 + n = n + 32768 by omega]; exact h
    · rw [show (128 + 64) * 256 + n = n + 49152 by omega]; exact h
end Go.Proofs.Ytlolnbmdjnnkjaa.D
