/-
  A fragment (two Booleans, a number, a text) that comes in by value: opened and shut.
-/
import Derived.Test.YtlolnbmdjnnkjaaProg
import Derived.Lib.SmallJoins
import Derived.ChangeArms
import Derived.KernelRfl
namespace Go.Proofs.Ytlolnbmdjnnkjaa
open Go.ChangeShapes Go.WideShapes Go.ChangeAt Go.RowKit Go.Joins
open Go.ChangeMaps (open_string shut_string)
theorem open_frag {H : Type} {enc : TypeId × Value → H} {W : World} {base : Nat} {sp : Nat → Bool} {held : Bool} {r : Reach} {b0 : Nat} {v : Value} {d : DataW H} {p : List MemPlace}
    (hv : Value.okWide Try.prog W r b0 23 v) (h : DataW.Trod enc Try.prog W base sp held 23 v d p) :
    ∃ (b e : Bool) (q : Int) (s : ByteArray), v = .agg #[.bool b, .bool e, .int .i64 q, .string s] ∧ d = .agg [.lit (.bool b), .lit (.bool e), .lit (.int .i64 q), .lit (.string s.data.toList)] ∧ p = [] ∧
      (Lit.int .i64 q).wf = true ∧ s.size ≤ maxLen := by
  obtain ⟨v0, v1, v2, v3, y0, y1, y2, y3, n, rfl, rfl, rfl, h0, h1, h2, h3⟩ := open_agg4 Try.underlying23 (by kernel_rfl) (by kernel_rfl) hv h
  obtain ⟨b, e0, rfl⟩ := DataW.trod_bool Try.underlying4 h0
  obtain ⟨e, e1, rfl⟩ := DataW.trod_bool Try.underlying4 h1
  obtain ⟨q, e2, rfl, w2⟩ := DataW.trod_int Try.underlying3 h2
  obtain ⟨s, e3, rfl, w3⟩ := DataW.trod_string Try.underlying9 h3
  simp only [List.cons.injEq, and_true] at e0 e1 e2 e3
  subst e0 e1 e2 e3
  exact ⟨b, e, q, s, rfl, rfl, rfl, w2, w3⟩
theorem shut_frag {H : Type} {enc : TypeId × Value → H} {W : World} {base : Nat} {sp : Nat → Bool} {held : Bool} {b e : Bool} {q : Int} {s : ByteArray} (wq : (Lit.int .i64 q).wf = true) (hs : s.size ≤ maxLen) :
    DataW.Trod enc Try.prog W base sp held 23 (.agg #[.bool b, .bool e, .int .i64 q, .string s]) (.agg [.lit (.bool b), .lit (.bool e), .lit (.int .i64 q), .lit (.string s.data.toList)]) [] :=
  shut_agg4 (y0 := (.lit (.bool b), [])) (y1 := (.lit (.bool e), [])) (y2 := (.lit (.int .i64 q), [])) (y3 := (.lit (.string s.data.toList), [])) Try.underlying23 (by kernel_rfl) (by kernel_rfl)
    ⟨1, by simp [DataW.trod, Try.underlying4]⟩ ⟨1, by simp [DataW.trod, Try.underlying4]⟩ ⟨1, by simp [DataW.trod, Try.underlying3, wq]⟩ ⟨1, by simp [DataW.trod, Try.underlying9, hs]⟩
end Go.Proofs.Ytlolnbmdjnnkjaa
