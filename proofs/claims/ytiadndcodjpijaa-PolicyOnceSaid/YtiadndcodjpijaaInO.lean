/-
  A slice of options that came in: opened as a list; what the reach gives.
-/
import Derived.Test.YtiadndcodjpijaaOpts
import Derived.Deep.SlicePairs
import Derived.SizedLaws
import Derived.KernelRfl
namespace Go.Proofs.Ytiadndcodjpijaa
open Go.ChangeShapes Go.WideShapes Go.Deep
def zOf : Value → Int | .int _ n => n | _ => 0
def dOf : Value → List UInt8 | .string s => s.data.toList | _ => []
/-- An option as a datum. -/
def optD {H : Type} (o : Opt.Op) : DataW H := .agg [.lit (.int .i64 o.1), .lit (.string o.2)]
theorem open_opts {H : Type} {enc : TypeId × Value → H} {W : World} {base fuel : Nat} {x : DataW H × List MemPlace} {p : Option Addr} {len cap : Nat}
    (h : DataW.trod enc Try.prog W base (fun _ => true) true fuel 25 [.slice p len cap] = some x) :
    ∃ os : List Opt.Op, ReadsO W (.slice p len cap) os ∧ os.length ≤ maxLen ∧ ((x.1 = .nil ∧ os = []) ∨ ∃ sp, x.1 = .slice (os.map optD) sp) := by
  rcases open_slice_pairs Try.underlying25 Try.underlying36 (by kernel_rfl) (by rfl) (by rfl) (by kernel_rfl) (by kernel_rfl) h with ⟨hcs, hx⟩ | ⟨a, l, c, m, n, V0, V1, D0, D1, P0, P1, hcs, _, hl, hm, hmm, hx, hi⟩
  · simp only [List.cons.injEq, and_true, Value.slice.injEq] at hcs
    obtain ⟨rfl, rfl, rfl⟩ := hcs
    subst hx
    exact ⟨[], .inl ⟨rfl, .inr rfl⟩, by simp, .inl ⟨rfl, rfl⟩⟩
  · simp only [List.cons.injEq, and_true, Value.slice.injEq] at hcs
    obtain ⟨rfl, rfl, rfl⟩ := hcs
    simp only [if_true] at hmm
    subst hmm
    have each : ∀ i, i < m → V0 i = .int .i64 (zOf (V0 i)) ∧ V1 i = .string ⟨(dOf (V1 i)).toArray⟩ ∧ D0 i = .lit (.int .i64 (zOf (V0 i))) ∧ D1 i = .lit (.string (dOf (V1 i))) := by
      intro i him
      obtain ⟨_, _, h0, h1⟩ := hi i him
      obtain ⟨z, e0, d0, _⟩ := DataW.trod_int Try.underlying3 h0
      obtain ⟨s, e1, d1, _⟩ := DataW.trod_string Try.underlying9 h1
      simp only [List.cons.injEq, and_true] at e0 e1
      simp only [Prod.mk.injEq] at d0 d1
      rw [e0, e1, d0.1, d1.1]
      exact ⟨rfl, by simp [dOf], rfl, rfl⟩
    have hlen : ((List.range len).map fun i => (zOf (V0 i), dOf (V1 i))).length = len := by simp
    have hat : ∀ k (h : k < len), ((List.range len).map fun i => ((zOf (V0 i), dOf (V1 i)) : Opt.Op))[k]'(by simpa using h) = (zOf (V0 k), dOf (V1 k)) := fun k h => by simp
    refine ⟨(List.range len).map fun i => (zOf (V0 i), dOf (V1 i)), ?_, by rw [hlen]; omega, .inr ⟨(List.range (m - len)).map fun j => .agg [D0 (len + j), D1 (len + j)], ?_⟩⟩
    · by_cases h0 : len = 0
      · subst h0
        exact .inl ⟨rfl, .inl ⟨_, _, rfl⟩⟩
      · obtain ⟨b, off, sp⟩ := a
        have hsp : sp = none := by
          have h := (hi 0 (by omega)).1
          simp only [Nat.zero_mul, Addr.add, if_true, World.cell?] at h
          split at h
          · cases sp with
            | none => rfl
            | some _ => simp at h
          · cases h
        subst hsp
        refine .inr ⟨b, off, m, by rw [hlen], by rw [hlen]; exact hl, cellsO_of _ (fun j u => W.cell? ⟨b, off + j, none⟩ = some u) fun k hk => ?_⟩
        have hk2 : k < len := by simpa using hk
        rw [hat k hk2]
        obtain ⟨c0, c1, _⟩ := hi k (by omega)
        obtain ⟨e0, e1, _⟩ := each k (by omega)
        rw [add_lit, Nat.mul_comm] at c0 c1
        rw [e0] at c0
        rw [e1] at c1
        exact ⟨c0, c1⟩
    · subst hx
      simp only [DataW.slice.injEq, and_true]
      rw [List.map_map]
      refine List.map_congr_left fun i hi2 => ?_
      obtain ⟨_, _, d0, d1⟩ := each i (by have := List.mem_range.1 hi2; omega)
      rw [d0, d1]
      rfl
theorem weights_all {H : Type} {e : TypeId} {l : List (DataW H)} {d : DataW H} (h : d ∈ l) : ∀ n ∈ d.weights Try.prog e, n ∈ DataW.weightsAll Try.prog e l := by
  induction l with
  | nil => cases h
  | cons x r ih =>
    intro n hn
    simp only [DataW.weightsAll, List.mem_append]
    rcases List.mem_cons.1 h with rfl | h
    · exact .inl hn
    · exact .inr (ih h n hn)
/-- What the reach gives. -/
theorem reach_opts {H : Type} {ts : List TypeId} {ds : List (DataW H)} (hz : (DataW.weightsEach Try.prog ts ds).all (· ≤ reachBytes) = true) {j : Nat} {d : DataW H} {os : List Opt.Op}
    (ht : ts[j]? = some 25) (hd : ds[j]? = some d) (hx : (d = .nil ∧ os = []) ∨ ∃ sp, d = .slice (os.map optD) sp) : os.length * 24 ≤ 140737488351232 ∧ ∀ o ∈ os, o.2.length ≤ 140737488351232 := by
  rcases hx with ⟨_, rfl⟩ | ⟨sp, rfl⟩
  · exact ⟨by simp, by simp⟩
  · have hb : Try.prog.bytesOf 36 = 24 := by kernel_rfl
    have h1 := sized_slice hz ht hd Try.underlying25
    rw [hb, List.length_map] at h1
    have hr : reachBytes = 140737488351232 := by decide
    refine ⟨?_, fun o ho => ?_⟩
    · rw [hr] at h1
      have : os.length * 24 ≤ (os.length + sp.length) * 24 := Nat.mul_le_mul_right _ (by omega)
      omega
    · have hm : o.2.length ∈ (DataW.slice (os.map optD) sp : DataW H).weights Try.prog 25 := by
        simp only [DataW.weights, Try.underlying25, List.mem_cons, List.mem_append]
        refine .inr (.inl (weights_all (d := optD o) (List.mem_map.2 ⟨o, ho, rfl⟩) _ ?_))
        simp [optD, DataW.weights, Try.underlying36, DataW.weightsEach]
      have := List.all_eq_true.1 hz _ (DataW.weights_mem_each ht hd _ hm)
      rw [hr] at this
      simpa using this
end Go.Proofs.Ytiadndcodjpijaa
