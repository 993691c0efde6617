/-
  The document's MD5: the constants, how far each step is rolled.
-/
import Derived.Test.YtaagfmnpeimakaaDoorWd
import Derived.Test.YtaagfmnpeimakaaDoorDgMath
import Derived.Deep.QuietTactic
import Derived.BigQuiet
import Derived.Deep.WholeRow
namespace Go.Proofs.YtaagfmnpeimakaaDoor.Dg
open Go.RowKit
set_option maxRecDepth 100000 in
set_option maxHeartbeats 800000 in
theorem sines_any (w : World) : Calls Tryd.prog 40 #[] w fun e w' => e = .returned (.slice (some ⟨w.heap.size, 0, none⟩) 64 64) ∧ RowW w.heap.size w' (.slice (some ⟨w.heap.size, 0, none⟩) 64 64) Dig.sines ∧ Below w.heap.size w w' := by
  have HR := Lib.hid (RowW.laid w w.heap.size (Nat.le_refl _) Dig.sines (by decide) (cellsW Dig.sines).toArray rfl)
  have HB := Lib.hid ((Below.refl w.heap.size w).alloc (Nat.le_refl _) (.cells (cellsW Dig.sines).toArray 76))
  go_enter Tryd.func40, Tryd.ntmps40
  go_wp2_with fail
  go_ret
  exact ⟨rfl, HR.out, HB.out⟩
theorem turn_cell (i : Nat) (hi : i < 64) : ([Value.int IntKind.i64 7, Value.int IntKind.i64 12, Value.int IntKind.i64 17, Value.int IntKind.i64 22, Value.int IntKind.i64 5, Value.int IntKind.i64 9, Value.int IntKind.i64 14, Value.int IntKind.i64 20, Value.int IntKind.i64 4, Value.int IntKind.i64 11, Value.int IntKind.i64 16, Value.int IntKind.i64 23, Value.int IntKind.i64 6, Value.int IntKind.i64 10, Value.int IntKind.i64 15, Value.int IntKind.i64 21] : List Value)[i / 16 * 4 + i % 4]? = some (.int .i64 (Dig.turn i : Int)) := by
  have h : ∀ i : Fin 64, (([7, 12, 17, 22, 5, 9, 14, 20, 4, 11, 16, 23, 6, 10, 15, 21] : List Nat)[i.val / 16 * 4 + i.val % 4]?) = some (Dig.turn i.val) := by decide +kernel
  have k := congrArg (Option.map fun n : Nat => Value.int .i64 (n : Int)) (h ⟨i, hi⟩)
  rw [← List.getElem?_map] at k
  exact k
set_option maxHeartbeats 800000 in
theorem turns_any (i : Nat) (hi : i < 64) (w : World) : Calls Tryd.prog 47 #[.int .i64 (i : Int)] w fun e w' => e = .returned (.int .i64 (Dig.turn i : Int)) ∧ Below w.heap.size w w' := by
  have HB := Lib.hid ((Below.refl w.heap.size w).alloc (Nat.le_refl _) (.cells ([Value.int IntKind.i64 7, Value.int IntKind.i64 12, Value.int IntKind.i64 17, Value.int IntKind.i64 22, Value.int IntKind.i64 5, Value.int IntKind.i64 9, Value.int IntKind.i64 14, Value.int IntKind.i64 20, Value.int IntKind.i64 4, Value.int IntKind.i64 11, Value.int IntKind.i64 16, Value.int IntKind.i64 23, Value.int IntKind.i64 6, Value.int IntKind.i64 10, Value.int IntKind.i64 15, Value.int IntKind.i64 21] : List Value).toArray 3))
  have hx := turn_cell i hi
  generalize Dig.turn i = r at *
  go_enter Tryd.func47, Tryd.ntmps47
  go_wp2_with fail
  go_ret
  exact ⟨rfl, HB.out⟩
end Go.Proofs.YtaagfmnpeimakaaDoor.Dg
