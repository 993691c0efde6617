/-
  General: the beginning and the rest of a slice of options, as values and as a walk's step.
-/
import Derived.Test.YtiadndcodjpijaaOpts
import Derived.Laws.Slices
namespace Go.Proofs.Ytiadndcodjpijaa
open Go.RowKit
theorem slice_lo {v : Value} {os : List Opt.Op} {W : World} (h : ReadsO W v os) (i : Nat) (hi : i ≤ os.length) :
    ∃ u, (∀ W', (Instr.slice 25 v none (some (.int .i64 (i : Int))) none).run Try.prog W' = .ok u W') ∧ ReadsO W u (os.take i) := by
  have hs : ∀ W', (sizeOf (Try.prog.elem 25)).run Try.prog W' = .ok 2 W' := fun W' => Try.sizeOf36 W'
  rcases h with ⟨rfl, ⟨ad, cap, rfl⟩ | rfl⟩ | ⟨b, off, cap, rfl, hle, hc⟩
  · obtain rfl : i = 0 := by simpa using hi
    refine ⟨.slice (some ad) 0 cap, fun W' => ?_, .inl ⟨rfl, .inl ⟨ad, cap, rfl⟩⟩⟩
    rw [run_slice_h (P := Try.prog) W' 25 (some ad) 0 cap Try.underlying25 .i64 (0 : Nat) (by omega) (by omega), hs]
    simp only [Result.andThen, sliced]
    by_cases e : cap = 0
    · simp [e]
    · have e2 : ad.add 0 = ad := by unfold Addr.add; split <;> simp_all
      simp [e, e2]
  · obtain rfl : i = 0 := by simpa using hi
    refine ⟨.slice none 0 0, fun W' => ?_, .inl ⟨rfl, .inr rfl⟩⟩
    rw [run_slice_h (P := Try.prog) W' 25 none 0 0 Try.underlying25 .i64 (0 : Nat) (by omega) (by omega), hs]
    simp [Result.andThen, sliced]
  · refine ⟨.slice (some ⟨b, off, none⟩) i cap, fun W' => ?_, ?_⟩
    · rw [run_slice_h (P := Try.prog) W' 25 (some ⟨b, off, none⟩) os.length cap Try.underlying25 .i64 (i : Int) (by omega) (by omega), hs]
      simp only [Result.andThen, sliced]
      by_cases e : cap = 0
      · simp [e]
      · simp [e, add_lit]
    · refine .inr ⟨b, off, cap, by rw [List.length_take_of_le hi], by rw [List.length_take_of_le hi]; omega, fun j u hj => hc j u ?_⟩
      have e : os = os.take i ++ os.drop i := (List.take_append_drop i os).symm
      rw [e, cellsO_append, List.getElem?_append_left (List.getElem?_eq_some_iff.1 hj).1]
      exact hj
theorem slice_hi {v : Value} {os : List Opt.Op} {W : World} (h : ReadsO W v os) (i : Nat) (hi : i ≤ os.length) :
    ∃ u, (∀ W', (Instr.slice 25 v (some (.int .i64 (i : Int))) none none).run Try.prog W' = .ok u W') ∧ ReadsO W u (os.drop i) := by
  have hs : ∀ W', (sizeOf (Try.prog.elem 25)).run Try.prog W' = .ok 2 W' := fun W' => Try.sizeOf36 W'
  rcases h with ⟨rfl, ⟨ad, cap, rfl⟩ | rfl⟩ | ⟨b, off, cap, rfl, hle, hc⟩
  · obtain rfl : i = 0 := by simpa using hi
    refine ⟨.slice (some ad) 0 cap, fun W' => ?_, .inl ⟨rfl, .inl ⟨ad, cap, rfl⟩⟩⟩
    rw [run_slice_l (P := Try.prog) W' 25 (some ad) 0 cap Try.underlying25 .i64 (0 : Nat) (by omega) (by omega), hs]
    simp only [Result.andThen, sliced]
    by_cases e : cap = 0
    · simp [e]
    · have e2 : ad.add 0 = ad := by unfold Addr.add; split <;> simp_all
      simp [e, e2]
  · obtain rfl : i = 0 := by simpa using hi
    refine ⟨.slice none 0 0, fun W' => ?_, .inl ⟨rfl, .inr rfl⟩⟩
    rw [run_slice_l (P := Try.prog) W' 25 none 0 0 Try.underlying25 .i64 (0 : Nat) (by omega) (by omega), hs]
    simp [Result.andThen, sliced]
  · by_cases e : cap = i
    · have hi2 : os.length = i := by omega
      refine ⟨.slice (some ⟨b, off, none⟩) 0 0, fun W' => ?_, .inl ⟨by rw [← hi2]; simp, .inl ⟨_, _, rfl⟩⟩⟩
      rw [run_slice_l (P := Try.prog) W' 25 (some ⟨b, off, none⟩) os.length cap Try.underlying25 .i64 (i : Int) (by omega) (by omega), hs]
      simp [Result.andThen, sliced, e, hi2]
    · refine ⟨.slice (some ⟨b, off + i * 2, none⟩) (os.length - i) (cap - i), fun W' => ?_, ?_⟩
      · rw [run_slice_l (P := Try.prog) W' 25 (some ⟨b, off, none⟩) os.length cap Try.underlying25 .i64 (i : Int) (by omega) (by omega), hs]
        simp [Result.andThen, sliced, e, add_lit]
      · refine .inr ⟨b, off + i * 2, cap - i, by simp, by simp; omega, fun j u hj => ?_⟩
        have h2 := hc (i * 2 + j) u (by
          have e : os = os.take i ++ os.drop i := (List.take_append_drop i os).symm
          have hl : (cellsO (os.take i)).length = i * 2 := by rw [cellsO_length, List.length_take_of_le hi]
          rw [e, cellsO_append, List.getElem?_append_right (by omega), hl, show i * 2 + j - i * 2 = j by omega]
          exact hj)
        rw [Nat.add_assoc]
        exact h2
section
variable {ops : Array Oper} {rest : List Oper} {o : Oper} {a : Act} {Q : Exit → Act → World → Prop} {w : World}
/-- A slice of options cut, be the step guarded or not. -/
theorem step_slice (hw : Region.wanted o (yielded ops a.tmps) = true) (x : Operand) (lo hi : Option Operand) (ho : o.op = .slice 25 x lo hi none) (vx : Value) (vlo vhi : Option Value) (u : Value)
    (hx : a.eval x = vx) (hlo : lo.map a.eval = vlo) (hhi : hi.map a.eval = vhi) (hr : (Instr.slice 25 vx vlo vhi none).run Try.prog w = .ok u w)
    (h : wpList Try.prog ops Q rest (a.put o.dst u) w) : wpList Try.prog ops Q (o :: rest) a w := by
  refine wpList_step fun _ hK => ?_
  rw [if_pos hw]
  subst hx hlo hhi
  have hr2 : (Instr.sliceAt 25 (a.eval x) (lo.map a.eval) (hi.map a.eval) none).run Try.prog w = .ok u w := by
    rw [run_sliceAt_slice (P := Try.prog) w 25 _ _ _ _ Try.underlying25]
    exact hr
  unfold Oper.wp execOp
  simp only [ho, Option.map_none, Sem.run_bind, Sem.run_pure, hr2, Result.andThen_ok]
  exact hK _ _ h
end
end Go.Proofs.Ytiadndcodjpijaa
