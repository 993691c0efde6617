/-
  General: a slice of no bytes with room for so many, just made.
-/
import Derived.Test.YtlolnbmdjnnkjaaBytes
namespace Go.Proofs.Ytlolnbmdjnnkjaa
open Go.RowKit
theorem make_room (k : Nat) (h : k ≤ 100000) (W : World) : (Instr.makeSlice 36 (.int .i64 0) (.int .i64 (k : Int))).run Try.prog W = .ok (.slice (some ⟨W.heap.size, 0, none⟩) 0 k) (W.alloc (.cells (Lib.byteCells (zeros k)).toArray 5)) := by
  have hi := infoB
  cases hq : Try.prog.info? 5 with
  | none => rw [hq] at hi; cases hi
  | some i =>
    rw [hq] at hi
    simp only [Option.map_some, Option.some.injEq, Prod.mk.injEq] at hi
    obtain ⟨hz, hs, hb⟩ := hi
    have := run_make (P := Try.prog) W 36 5 i (.int .u8 0) Try.underlying36 hq hz .i64 .i64 0 k (by omega) (by omega) (by rw [hb]; omega) (by omega)
    rw [hs] at this
    simp only [Int.toNat_natCast, Nat.mul_one, Value.cells] at this
    rw [made_zeros] at this
    exact this
theorem Owns.room (w : World) (k : Nat) (h : k ≤ 100000) : Owns w (w.alloc (.cells (Lib.byteCells (zeros k)).toArray 5)) (.slice (some ⟨w.heap.size, 0, none⟩) 0 k) [] :=
  ⟨⟨rfl, .inr ⟨w.heap.size, k, _, rfl, Nat.le_refl _, heap_alloc_new _ _, Nat.zero_le _, by unfold maxLen; omega, by simp [Lib.byteCells, zeros], by simp [Lib.byteCells]⟩⟩, (Below.refl _ _).alloc (Nat.le_refl _) _⟩
end Go.Proofs.Ytlolnbmdjnnkjaa
