/-
  A datagram of exchanges that comes in by value, its options behind a slice: opened; what the reach gives.
-/
import Derived.Test.YtmonoicdejallaaInO
import Derived.Lib.SmallJoins
namespace Go.Proofs.Ytmonoicdejallaa
open Go.ChangeShapes Go.WideShapes Go.Deep Go.Joins
theorem open_bap {H : Type} {enc : TypeId × Value → H} {W : World} {base : Nat} {r : Reach} {b0 : Nat} {v : Value} {d : DataW H} {p : List MemPlace}
    (hv : Value.okWide Try.prog W r b0 24 v) (h : DataW.Trod enc Try.prog W base (fun _ => true) true 24 v d p) :
    ∃ (c i a : Int) (x : Value) (os : List Opt.Op) (d3 : DataW H), v = .agg #[.int .i64 c, .int .i64 i, .int .i64 a, x] ∧ d = .agg [.lit (.int .i64 c), .lit (.int .i64 i), .lit (.int .i64 a), d3] ∧
      ReadsO W x os ∧ ((d3 = .nil ∧ os = []) ∨ ∃ sp, d3 = .slice (os.map optD) sp) := by
  obtain ⟨v0, v1, v2, v3, y0, y1, y2, y3, n, rfl, rfl, _, h0, h1, h2, h3⟩ := open_agg4 Try.underlying24 (by kernel_rfl) (by kernel_rfl) hv h
  obtain ⟨c, e0, rfl, _⟩ := DataW.trod_int Try.underlying3 h0
  obtain ⟨i, e1, rfl, _⟩ := DataW.trod_int Try.underlying3 h1
  obtain ⟨a, e2, rfl, _⟩ := DataW.trod_int Try.underlying3 h2
  simp only [List.cons.injEq, and_true] at e0 e1 e2
  subst e0 e1 e2
  obtain ⟨x, len, cap, rfl⟩ : ∃ x len cap, v3 = .slice x len cap := by
    rcases open_slice_pairs Try.underlying22 Try.underlying46 (by kernel_rfl) (by rfl) (by rfl) (by kernel_rfl) (by kernel_rfl) h3 with ⟨hcs, _⟩ | ⟨a, l, c, m, k, V0, V1, D0, D1, P0, P1, hcs, _⟩
    · simp only [List.cons.injEq, and_true] at hcs
      exact ⟨_, _, _, hcs⟩
    · simp only [List.cons.injEq, and_true] at hcs
      exact ⟨_, _, _, hcs⟩
  obtain ⟨os, hr, _, hx⟩ := open_opts h3
  exact ⟨c, i, a, _, os, _, rfl, rfl, hr, hx⟩
/-- What the reach gives. -/
theorem reach_bap {H : Type} {ts : List TypeId} {ds : List (DataW H)} (hz : (DataW.weightsEach Try.prog ts ds).all (· ≤ reachBytes) = true) {j : Nat} {c i a : Int} {d3 : DataW H} {os : List Opt.Op}
    (ht : ts[j]? = some 24) (hd : ds[j]? = some (.agg [.lit (.int .i64 c), .lit (.int .i64 i), .lit (.int .i64 a), d3])) (hx : (d3 = .nil ∧ os = []) ∨ ∃ sp, d3 = .slice (os.map optD) sp) :
    os.length * 24 ≤ 140737488351232 ∧ ∀ o ∈ os, o.2.length ≤ 140737488351232 := by
  have hz2 : (DataW.weightsEach Try.prog [3, 3, 3, 22] [.lit (.int .i64 c), .lit (.int .i64 i), .lit (.int .i64 a), d3]).all (· ≤ reachBytes) = true := by
    refine List.all_eq_true.2 fun n hn => List.all_eq_true.1 hz n (DataW.weights_mem_each ht hd n ?_)
    simpa [DataW.weights, Try.underlying24] using hn
  exact reach_opts hz2 (j := 3) rfl rfl hx
end Go.Proofs.Ytmonoicdejallaa
