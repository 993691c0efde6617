/-
  Stage 10: what a step answers: a state, the actions in a slice of the call's own, an error's number.
-/
import Derived.Test.YteabkmelnoefiaaGreatDoorZ01
import Derived.Test.YteabkmelnoefiaaGreatDoorZ05
namespace Go.Proofs.YteabkmelnoefiaaGreatDoor.U
open Go.RowKit
def StepPost (r : Int × List Int × Int) (w : World) : Ending → World → Prop := fun e w' => ∃ p cap, e = .returned (.tuple #[.int .i64 r.1, .slice p r.2.1.length cap, .int .i64 r.2.2]) ∧ OwnsI w w' (.slice p r.2.1.length cap) r.2.1
theorem post_nil {t e : Int} {w w' : World} (hb : Below w.heap.size w w') : StepPost (t, [], e) w (.returned (.tuple #[.int .i64 t, .slice none 0 0, .int .i64 e])) w' :=
  ⟨none, 0, rfl, ⟨World.ownsRow_nil _ _ _ _, hb⟩⟩
/-- What the program's own step answers, at any state and event, in every world that comes behind w0. -/
abbrev StepOk (w0 : World) : Prop := Hid (∀ s v W, Below w0.heap.size w0 W → Calls Tryz.prog 74 #[.int .i64 s, .int .i64 v] W (StepPost (Fsm.step s v) W))
theorem StepOk.later {w0 w1 : World} (h : StepOk w0) (hb : Below w0.heap.size w0 w1) : StepOk w1 := Lib.hid fun s v W hW => h.out s v W (bel2 hb hW)
theorem StepOk.at {w0 : World} (h : StepOk w0) (s v t e : Int) (L : List Int) (hr : Fsm.step s v = (t, L, e)) (W : World) (hW : Below w0.heap.size w0 W) : Calls Tryz.prog 74 #[.int .i64 s, .int .i64 v] W (StepPost (t, L, e) W) := hr ▸ h.out s v W hW
theorem by_mod (z : Int) (n : Int) (h0 : 0 < n) (h1 : n ≤ 1000) : ∃ x : Nat, wrap64 ((IntKind.u64.wrap z).tmod n) = (x : Int) ∧ (x : Int) < n := by
  have hz : 0 ≤ IntKind.u64.wrap z := by
    show 0 ≤ z % 18446744073709551616
    omega
  generalize IntKind.u64.wrap z = y at *
  have hm : y.tmod n = y % n := Int.tmod_eq_emod_of_nonneg hz
  have a1 := Int.emod_nonneg y (show n ≠ 0 by omega)
  have a2 := Int.emod_lt_of_pos y h0
  refine ⟨(y % n).toNat, ?_, by omega⟩
  rw [hm, IntWalk.wrap64_in _ ⟨by omega, by omega⟩]
  omega
/-- Any place: what its step answers. -/
theorem StepOk.place {w0 : World} (ST : StepOk w0) (s v : Nat) (hs : s < 10) (hv : v < 16) : ∃ (t : Nat) (L : List Int) (e : Int), t ≤ 9 ∧ L.length ≤ 3 ∧ Fsm.place s v = ((t : Int), L, e) ∧ (e = 0 ∨ e = 1001 ∧ L = []) ∧ Hid (∀ W, Below w0.heap.size w0 W → Calls Tryz.prog 74 #[.int .i64 (s : Int), .int .i64 (v : Int)] W (StepPost ((t : Int), L, e) W)) := by
  by_cases ht : Fsm.text s v = [45]
  · have hp := Fsm.place_never s v hs hv ht
    refine ⟨0, [], 1001, by omega, by decide, hp, .inr ⟨rfl, rfl⟩, Lib.hid fun W hW => ?_⟩
    have h := ST.out s v W hW
    rwa [Fsm.step_in s v hs hv, hp] at h
  · obtain ⟨t, L, h9, hp, _, h3, _⟩ := Fsm.place_text s v hs hv ht
    refine ⟨t, L, 0, h9, h3, hp, .inl rfl, Lib.hid fun W hW => ?_⟩
    have h := ST.out s v W hW
    rwa [Fsm.step_in s v hs hv, hp] at h
end Go.Proofs.YteabkmelnoefiaaGreatDoor.U
