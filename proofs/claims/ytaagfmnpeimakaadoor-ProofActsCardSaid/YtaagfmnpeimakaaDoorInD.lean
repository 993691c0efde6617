/-
  Stage 16: a slice of acts (a number, a text, a message, a Boolean) that came in: opened as a list; what the reach gives.
-/
import Derived.Test.YtaagfmnpeimakaaDoorCp1
import Derived.Test.YtaagfmnpeimakaaDoorFlat
import Derived.Deep.Slices
import Derived.ChangeSame
import Derived.SizedLaws
import Derived.KernelRfl
namespace Go.Proofs.YtaagfmnpeimakaaDoor
open Go.ChangeShapes Go.WideShapes Go.Deep
set_option maxRecDepth 100000
abbrev Act16 := Int × List UInt8 × Prf.Msg × Bool
def act16D {H : Type} (a : Act16) : DataW H := .agg [.lit (.int .i64 a.1), .lit (.string a.2.1), .agg [.lit (.int .i64 a.2.2.1.1), .lit (.int .i64 a.2.2.1.2.1), .lit (.string a.2.2.1.2.2.1), .lit (.string a.2.2.1.2.2.2)], .lit (.bool a.2.2.2)]
def act16C (a : Act16) : List Value := [.int .i64 a.1, .string ⟨a.2.1.toArray⟩, .int .i64 a.2.2.1.1, .int .i64 a.2.2.1.2.1, .string ⟨a.2.2.1.2.2.1.toArray⟩, .string ⟨a.2.2.1.2.2.2.toArray⟩, .bool a.2.2.2]
theorem add16 (b off j : Nat) : (⟨b, off, none⟩ : Addr).add j = ⟨b, off + j, none⟩ := by unfold Addr.add; split <;> simp_all
theorem one_act16 {H : Type} {enc : TypeId × Value → H} {W : World} {base n : Nat} {cs : List Value} {x : DataW H × List MemPlace} (hl : cs.length = 7)
    (h : DataW.trod enc Tryd.prog W base (fun _ => true) true n 35 cs = some x) : ∃ a : Act16, cs = act16C a ∧ x.1 = act16D a := by
  obtain ⟨xs, k, rfl, hxy, _, hxl, hfs⟩ := DataW.trod_struct Tryd.underlying35 h
  match cs, hl with
  | [v0, v1, v2, v3, v4, v5, v6], _ =>
    match xs, hxl with
    | [y0, y1, y2, y3], _ =>
      have g0 := hfs 0 _ rfl
      have g1 := hfs 1 _ rfl
      have g2 := hfs 2 _ rfl
      have g3 := hfs 3 _ rfl
      have o1 : Tryd.prog.cellsOf 3 = 1 := by kernel_rfl
      have o2 : Tryd.prog.cellsOf 9 = 1 := by kernel_rfl
      have o3 : Tryd.prog.cellsOf 33 = 4 := by kernel_rfl
      have o4 : Tryd.prog.cellsOf 4 = 1 := by kernel_rfl
      simp [o1] at g0
      simp [o2] at g1
      simp [o3] at g2
      simp [o4] at g3
      obtain ⟨z0, e0, d0, _⟩ := DataW.trod_int Tryd.underlying3 g0
      obtain ⟨s1, e1, d1, _⟩ := DataW.trod_string Tryd.underlying9 g1
      obtain ⟨b3, e3, d3⟩ := DataW.trod_bool Tryd.underlying4 g3
      obtain ⟨ys, k2, rfl, hyy, _, hyl, hgs⟩ := DataW.trod_struct Tryd.underlying33 g2
      match ys, hyl with
      | [u0, u1, u2, u3], _ =>
        have j0 := hgs 0 _ rfl
        have j1 := hgs 1 _ rfl
        have j2 := hgs 2 _ rfl
        have j3 := hgs 3 _ rfl
        simp [o1] at j0
        simp [o1] at j1
        simp [o2] at j2
        simp [o2] at j3
        obtain ⟨c0, f0, h0, _⟩ := DataW.trod_int Tryd.underlying3 j0
        obtain ⟨c1, f1, h1, _⟩ := DataW.trod_int Tryd.underlying3 j1
        obtain ⟨c2, f2, h2, _⟩ := DataW.trod_string Tryd.underlying9 j2
        obtain ⟨c3, f3, h3, _⟩ := DataW.trod_string Tryd.underlying9 j3
        simp only [List.cons.injEq, and_true] at e0 e1 e3 f0 f1 f2 f3
        subst e0 e1 e3 f0 f1 f2 f3
        refine ⟨(z0, s1.data.toList, (c0, c1, c2.data.toList, c3.data.toList), b3), by simp [act16C], ?_⟩
        rw [hxy]
        simp [act16D, d0, d1, d3, hyy, h0, h1, h2, h3]
/-- 'v' is a slice that reads as these acts. -/
def ReadsD (W : World) (v : Value) (l : List Act16) : Prop := ∃ (p : Option Addr) (cap : Nat) (b off : Nat), v = .slice p l.length cap ∧
  ∀ k (h : k < l.length), p = some ⟨b, off, none⟩ ∧ ∀ j u, (act16C l[k])[j]? = some u → W.cell? ⟨b, off + 7 * k + j, none⟩ = some u
theorem open_acts16 {H : Type} {enc : TypeId × Value → H} {W : World} {base fuel : Nat} {x : DataW H × List MemPlace} {p : Option Addr} {len cap : Nat}
    (h : DataW.trod enc Tryd.prog W base (fun _ => true) true fuel 22 [.slice p len cap] = some x) :
    ∃ l : List Act16, ReadsD W (.slice p len cap) l ∧ ((x.1 = .nil ∧ l = []) ∨ ∃ sp, x.1 = .slice (l.map act16D) sp) := by
  have ce : Tryd.prog.cellsOf 35 = 7 := by kernel_rfl
  rcases open_slice Tryd.underlying22 h with ⟨hcs, hx⟩ | ⟨a, l, c, m, n, D, Pl, hcs, _, hl, _, hmm, hx, hi⟩
  · simp only [List.cons.injEq, and_true, Value.slice.injEq] at hcs
    obtain ⟨rfl, rfl, rfl⟩ := hcs
    subst hx
    exact ⟨[], ⟨none, 0, 0, 0, rfl, fun k hk => absurd hk (Nat.not_lt_zero k)⟩, .inl ⟨rfl, rfl⟩⟩
  · simp only [List.cons.injEq, and_true, Value.slice.injEq] at hcs
    obtain ⟨rfl, rfl, rfl⟩ := hcs
    simp only [if_true] at hmm
    subst hmm
    have each : ∀ i, ∃ f : Act16, i < m → (∀ j u, (act16C f)[j]? = some u → W.cell? (a.add (i * 7 + j)) = some u) ∧ D i = act16D f := by
      intro i
      by_cases him : i < m
      · obtain ⟨cs', h1, h2⟩ := hi i him
        rw [ce] at h1
        obtain ⟨_, hlen, hcell⟩ := World.cells?_some h1
        obtain ⟨f, e1, e2⟩ := one_act16 hlen h2
        refine ⟨f, fun _ => ⟨fun j u hj => ?_, e2⟩⟩
        have hj2 : j < 7 := by
          rcases Nat.lt_or_ge j 7 with h | h
          · exact h
          · rw [List.getElem?_eq_none (by simpa [act16C] using h)] at hj; cases hj
        have k := hcell j hj2
        rw [add_add, e1, hj] at k
        exact k
      · exact ⟨(0, [], (0, 0, [], []), false), fun k => absurd k him⟩
    obtain ⟨f, hf⟩ := Classical.axiomOfChoice each
    have hlen : ((List.range len).map f).length = len := by simp
    obtain ⟨b, off, sp⟩ := a
    have hsp : 0 < len → sp = none := fun h0 => by
      have h := (hf 0 (by omega)).1 0 _ rfl
      simp only [Nat.zero_mul, Nat.add_zero, Addr.add, if_true, World.cell?] at h
      split at h
      · cases sp with
        | none => rfl
        | some _ => simp at h
      · cases h
    refine ⟨(List.range len).map f, ⟨some ⟨b, off, sp⟩, m, b, off, by rw [hlen], fun k hk => ?_⟩, .inr ⟨(List.range (m - len)).map fun j => D (len + j), ?_⟩⟩
    · have hk2 : k < len := by simpa using hk
      have hs := hsp (by omega)
      subst hs
      refine ⟨rfl, fun j u hj => ?_⟩
      rw [show ((List.range len).map f)[k] = f k by simp] at hj
      have e := (hf k (by omega)).1 j u hj
      rw [add16] at e
      rw [show off + 7 * k + j = off + (k * 7 + j) by omega]
      exact e
    · subst hx
      simp only [DataW.slice.injEq, and_true]
      rw [List.map_map]
      exact List.map_congr_left fun i hi2 => (hf i (by have := List.mem_range.1 hi2; omega)).2
theorem weights_all16 {H : Type} {e : TypeId} {l : List (DataW H)} {d : DataW H} (h : d ∈ l) : ∀ n ∈ d.weights Tryd.prog e, n ∈ DataW.weightsAll Tryd.prog e l := by
  induction l with
  | nil => cases h
  | cons x r ih =>
    intro n hn
    simp only [DataW.weightsAll, List.mem_append]
    rcases List.mem_cons.1 h with rfl | h
    · exact .inl hn
    · exact .inr (ih h n hn)
/-- What the reach gives. -/
theorem reach_acts16 {H : Type} {ts : List TypeId} {ds : List (DataW H)} (hz : (DataW.weightsEach Tryd.prog ts ds).all (· ≤ reachBytes) = true) {j : Nat} {d : DataW H} {l : List Act16}
    (ht : ts[j]? = some 22) (hd : ds[j]? = some d) (hx : (d = .nil ∧ l = []) ∨ ∃ sp, d = .slice (l.map act16D) sp) : l.length ≤ 140737488351232 ∧ ∀ a ∈ l, a.2.1.length ≤ 140737488351232 ∧ a.2.2.1.2.2.1.length ≤ 140737488351232 ∧ a.2.2.1.2.2.2.length ≤ 140737488351232 := by
  have hr : reachBytes = 140737488351232 := by decide
  rcases hx with ⟨_, rfl⟩ | ⟨sp, rfl⟩
  · exact ⟨by simp, by simp⟩
  · have hb : Tryd.prog.bytesOf 35 = 80 := by kernel_rfl
    have h1 := sized_slice hz ht hd Tryd.underlying22
    rw [hb, List.length_map, hr] at h1
    refine ⟨by omega, fun a ha => ?_⟩
    have key : ∀ n, n ∈ (act16D (H := H) a).weights Tryd.prog 35 → n ≤ 140737488351232 := fun n hn => by
      have hm : n ∈ (DataW.slice (l.map act16D) sp : DataW H).weights Tryd.prog 22 := by
        simp only [DataW.weights, Tryd.underlying22, List.mem_cons, List.mem_append]
        exact .inr (.inl (weights_all16 (d := act16D a) (List.mem_map.2 ⟨a, ha, rfl⟩) _ hn))
      have := List.all_eq_true.1 hz _ (DataW.weights_mem_each ht hd _ hm)
      rw [hr] at this
      simpa using this
    refine ⟨key _ ?_, key _ ?_, key _ ?_⟩
    all_goals simp [act16D, DataW.weights, Tryd.underlying35, Tryd.underlying33, DataW.weightsEach]
end Go.Proofs.YtaagfmnpeimakaaDoor
