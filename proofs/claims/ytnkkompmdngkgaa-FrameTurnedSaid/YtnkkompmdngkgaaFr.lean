/-
  A frame that comes in by value, opened and shut.
-/
import Derived.Test.YtnkkompmdngkgaaProg
import Derived.Lib.SmallJoins
import Derived.KernelRfl
namespace Go.Proofs.Ytnkkompmdngkgaa
open Go.ChangeShapes Go.WideShapes Go.ChangeAt Go.RowKit Go.Joins
open Go.ChangeMaps (open_string shut_string)
theorem open_frame {H : Type} {enc : TypeId × Value → H} {W : World} {base : Nat} {sp : Nat → Bool} {held : Bool} {r : Reach} {b0 : Nat} {v : Value} {d : DataW H} {p : List MemPlace}
    (hv : Value.okWide Try.prog W r b0 23 v) (h : DataW.Trod enc Try.prog W base sp held 23 v d p) :
    ∃ (z : Int) (s : ByteArray), v = .agg #[.int .i64 z, .string s] ∧ d = .agg [.lit (.int .i64 z), .lit (.string s.data.toList)] ∧ p = [] ∧ (Lit.int .i64 z).wf = true ∧ s.size ≤ maxLen := by
  obtain ⟨v0, v1, y0, y1, n, rfl, rfl, rfl, h0, h1⟩ := open_agg2 Try.underlying23 (by kernel_rfl) (by kernel_rfl) hv h
  obtain ⟨z, e0, rfl, w0⟩ := DataW.trod_int Try.underlying3 h0
  obtain ⟨s, e1, rfl, w1⟩ := DataW.trod_string Try.underlying9 h1
  simp only [List.cons.injEq, and_true] at e0 e1
  subst e0 e1
  exact ⟨z, s, rfl, rfl, rfl, w0, w1⟩
theorem shut_frame {H : Type} {enc : TypeId × Value → H} {W : World} {base : Nat} {sp : Nat → Bool} {held : Bool} {z : Int} {s : ByteArray} (wz : (Lit.int .i64 z).wf = true) (hs : s.size ≤ maxLen) :
    DataW.Trod enc Try.prog W base sp held 23 (.agg #[.int .i64 z, .string s]) (.agg [.lit (.int .i64 z), .lit (.string s.data.toList)]) [] :=
  shut_agg2 (y0 := (.lit (.int .i64 z), [])) (y1 := (.lit (.string s.data.toList), [])) Try.underlying23 (by kernel_rfl) (by kernel_rfl) ⟨1, by simp [DataW.trod, Try.underlying3, wz]⟩ ⟨1, by simp [DataW.trod, Try.underlying9, hs]⟩
end Go.Proofs.Ytnkkompmdngkgaa
