/-
  The contracts at texts that are lists.
-/
import Derived.Test.YtnkkompmdngkgaaV6
import Derived.Test.YtnkkompmdngkgaaV5
import Derived.Test.YtnkkompmdngkgaaV2
namespace Go.Proofs.Ytnkkompmdngkgaa.S
open Go.RowKit
theorem put_list (l : List UInt8) (z : Int) (w : World) (h : l.length ≤ 268435456) : Calls Try.prog 22 #[.string ⟨l.toArray⟩, .int .i64 z] w fun e w' => e = .returned (.string ⟨(Stf.put z l).toArray⟩) ∧ Below w.heap.size w w' := by
  simpa using put_any ⟨l.toArray⟩ z w (by rw [sz]; exact h)
theorem get_list (l : List UInt8) (w : World) (h : l.length ≤ 268435456) : Calls Try.prog 19 #[.string ⟨l.toArray⟩] w fun e w' => e = .returned (.tuple #[.string ⟨(Stf.get l).1.toArray⟩, .int .i64 (Stf.get l).2]) ∧ Below w.heap.size w w' := by
  simpa using get_any ⟨l.toArray⟩ w (by rw [sz]; exact h)
theorem split_list (l : List UInt8) (w : World) (h : l.length ≤ 268435456) : Calls Try.prog 18 #[.string ⟨l.toArray⟩] w (SplitPost l w) := by
  simpa using split_any ⟨l.toArray⟩ w (by rw [sz]; exact h)
theorem stuff_list (l : List UInt8) (z : Int) (w : World) (h : l.length ≤ 268435456) : Calls Try.prog 14 #[.string ⟨l.toArray⟩, .int .i64 z] w fun e w' => e = .returned (.string ⟨(Stf.put z l).toArray⟩) ∧ Below w.heap.size w w' := by
  simpa using stuff_any ⟨l.toArray⟩ z w (by rw [sz]; exact h)
theorem unstuff_list (l : List UInt8) (w : World) (h : l.length ≤ 268435456) : Calls Try.prog 29 #[.string ⟨l.toArray⟩] w fun e w' => e = .returned (.tuple #[.string ⟨(Stf.get l).1.toArray⟩, .int .i64 (Stf.get l).2]) ∧ Below w.heap.size w w' := by
  simpa using unstuff_any ⟨l.toArray⟩ w (by rw [sz]; exact h)
end Go.Proofs.Ytnkkompmdngkgaa.S
