/-
  A message (two numbers, two texts) that comes in by value: opened and shut; what the reach gives.
-/
import Derived.Test.YtkdlhonbpciceaaProg
import Derived.Lib.SmallJoins
import Derived.SizedLaws
import Derived.KernelRfl
namespace Go.Proofs.Ytkdlhonbpciceaa
open Go.ChangeShapes Go.WideShapes Go.ChangeAt Go.RowKit Go.Joins
open Go.ChangeMaps (open_string shut_string)
theorem open_chap {H : Type} {enc : TypeId × Value → H} {W : World} {base : Nat} {sp : Nat → Bool} {held : Bool} {r : Reach} {b0 : Nat} {v : Value} {d : DataW H} {p : List MemPlace}
    (hv : Value.okWide Try.prog W r b0 23 v) (h : DataW.Trod enc Try.prog W base sp held 23 v d p) :
    ∃ (c i : Int) (s t : ByteArray), v = .agg #[.int .i64 c, .int .i64 i, .string s, .string t] ∧ d = .agg [.lit (.int .i64 c), .lit (.int .i64 i), .lit (.string s.data.toList), .lit (.string t.data.toList)] ∧ p = [] ∧
      (Lit.int .i64 c).wf = true ∧ (Lit.int .i64 i).wf = true ∧ s.size ≤ maxLen ∧ t.size ≤ maxLen := by
  obtain ⟨v0, v1, v2, v3, y0, y1, y2, y3, n, rfl, rfl, rfl, h0, h1, h2, h3⟩ := open_agg4 Try.underlying23 (by kernel_rfl) (by kernel_rfl) hv h
  obtain ⟨c, e0, rfl, w0⟩ := DataW.trod_int Try.underlying3 h0
  obtain ⟨i, e1, rfl, w1⟩ := DataW.trod_int Try.underlying3 h1
  obtain ⟨s, e2, rfl, w2⟩ := DataW.trod_string Try.underlying9 h2
  obtain ⟨t, e3, rfl, w3⟩ := DataW.trod_string Try.underlying9 h3
  simp only [List.cons.injEq, and_true] at e0 e1 e2 e3
  subst e0 e1 e2 e3
  exact ⟨c, i, s, t, rfl, rfl, rfl, w0, w1, w2, w3⟩
theorem shut_chap {H : Type} {enc : TypeId × Value → H} {W : World} {base : Nat} {sp : Nat → Bool} {held : Bool} {c i : Int} {s t : ByteArray} (wc : (Lit.int .i64 c).wf = true) (wi : (Lit.int .i64 i).wf = true) (hs : s.size ≤ maxLen) (ht : t.size ≤ maxLen) :
    DataW.Trod enc Try.prog W base sp held 23 (.agg #[.int .i64 c, .int .i64 i, .string s, .string t]) (.agg [.lit (.int .i64 c), .lit (.int .i64 i), .lit (.string s.data.toList), .lit (.string t.data.toList)]) [] :=
  shut_agg4 (y0 := (.lit (.int .i64 c), [])) (y1 := (.lit (.int .i64 i), [])) (y2 := (.lit (.string s.data.toList), [])) (y3 := (.lit (.string t.data.toList), [])) Try.underlying23 (by kernel_rfl) (by kernel_rfl)
    ⟨1, by simp [DataW.trod, Try.underlying3, wc]⟩ ⟨1, by simp [DataW.trod, Try.underlying3, wi]⟩ ⟨1, by simp [DataW.trod, Try.underlying9, hs]⟩ ⟨1, by simp [DataW.trod, Try.underlying9, ht]⟩
/-- What the reach gives. -/
theorem reach_chap {H : Type} {ts : List TypeId} {ds : List (DataW H)} (hz : (DataW.weightsEach Try.prog ts ds).all (· ≤ reachBytes) = true) {j : Nat} {c i : Int} {s t : ByteArray}
    (ht : ts[j]? = some 23) (hd : ds[j]? = some (.agg [.lit (.int .i64 c), .lit (.int .i64 i), .lit (.string s.data.toList), .lit (.string t.data.toList)])) :
    s.size ≤ 140737488351232 ∧ t.size ≤ 140737488351232 := by
  have hz2 : (DataW.weightsEach (H := H) Try.prog [3, 3, 9, 9] [.lit (.int .i64 c), .lit (.int .i64 i), .lit (.string s.data.toList), .lit (.string t.data.toList)]).all (· ≤ reachBytes) = true := by
    refine List.all_eq_true.2 fun n hn => List.all_eq_true.1 hz n (DataW.weights_mem_each ht hd n ?_)
    simpa [DataW.weights, Try.underlying23] using hn
  have h2 := sized_string hz2 (j := 2) (t := 9) rfl rfl
  have h3 := sized_string hz2 (j := 3) (t := 9) rfl rfl
  have hr : reachBytes = 140737488351232 := by decide
  rw [hr] at h2 h3
  have e : s.data.toList.length = s.size := by simp
  have e2 : t.data.toList.length = t.size := by simp
  rw [e] at h2
  rw [e2] at h3
  exact ⟨h2, h3⟩
end Go.Proofs.Ytkdlhonbpciceaa
