/-
  What every program of stage 7 answers that is one.
-/
import Derived.Test.YtcljipgnegahhaaJ2
import Derived.Test.YtcljipgnegahhaaJ4
import Derived.Test.YtcljipgnegahhaaNum
namespace Go.Proofs.Ytcljipgnegahhaa.J
open Go.RowKit
/-- One of its integers, at the world at hand. -/
theorem owns_cell {w W : World} {g n cap : Nat} {zs : List Int} (h : OwnsI w W (.slice (some ⟨g, 0, none⟩) n cap) zs) (k : Nat) (hk : k < zs.length) : W.cell? ⟨g, k, none⟩ = some (.int .i64 zs[k]) := by
  have h2 := h.1.cells rfl k _ (cellsI_at zs k hk)
  rwa [add_at, Nat.zero_add] at h2
set_option maxRecDepth 100000 in
set_option maxHeartbeats 1600000 in
theorem awake_walk (S : ByteArray) (w : World) (hS : S.size = 48)
    (P1 : Hid (∀ v W, ReadsI W v [1, 2, 3, 4, 5, 6, 7, 8, 9, 10, 11, 4294967295] → Calls Try.prog 7 #[v] W fun e w' => e = .returned (.tuple #[.string S, .int .i64 0]) ∧ Below W.heap.size W w'))
    (G1 : Hid (∀ W, Calls Try.prog 9 #[.string S] W (GetPost ([1, 2, 3, 4, 5, 6, 7, 8, 9, 10, 11, 4294967295], 0) W)))
    (P2 : Hid (∀ v W, ReadsI W v [1] → Calls Try.prog 7 #[v] W fun e w' => e = .returned (.tuple #[.string ⟨#[]⟩, .int .i64 700]) ∧ Below W.heap.size W w')) :
    Calls Try.prog 15 #[] w fun e w' => e = .returned (.bool true) ∧ Below w.heap.size w w' := by
  have q1 : ((S.size : Int) == 48) = true := by rw [beq_iff_eq]; omega
  have L1 := Lib.hid (readsI_lit w _ rfl [1, 2, 3, 4, 5, 6, 7, 8, 9, 10, 11, 4294967295] _ rfl)
  have B0 := Lib.hid ((Below.refl w.heap.size w).alloc (Nat.le_refl _) (.cells (cellsI [1, 2, 3, 4, 5, 6, 7, 8, 9, 10, 11, 4294967295]).toArray 3))
  clear hS
  go_enter Try.func15, Try.ntmps15
  go_wp2_with fail
  refine (P1.out _ _ L1.out).mono ?_
  rintro e w1 ⟨rfl, hb1⟩
  have B1 := Lib.hid (bel2 B0.out hb1)
  clear hb1
  go_wp2_with fail
  refine (G1.out _).mono ?_
  rintro e w2 ⟨v, rfl, ho⟩
  obtain ⟨g, cap, hv, _⟩ := ho.form (by decide)
  rw [show ([1, 2, 3, 4, 5, 6, 7, 8, 9, 10, 11, 4294967295] : List Int).length = 12 from rfl] at hv
  subst hv
  have HO := Lib.hid ho
  have B2 := Lib.hid (bel2 B1.out ho.2)
  have L2 := Lib.hid (readsI_lit w2 _ rfl [1] _ rfl)
  clear ho
  go_wp2_with fail
  refine (P2.out _ _ L2.out).mono ?_
  rintro e w3 ⟨rfl, hb3⟩
  have B3 := Lib.hid (bel2 (bel2 B2.out ((Below.refl w2.heap.size w2).alloc (Nat.le_refl _) (.cells (cellsI [1]).toArray 3))) hb3)
  have c11 : w3.cell? ⟨g, 11, none⟩ = some (.int .i64 4294967295) := owns_cell ((HO.out.below ((Below.refl w2.heap.size w2).alloc (Nat.le_refl _) (.cells (cellsI [1]).toArray 3))).below hb3) 11 (by decide)
  have hi := fun W => intI_index g 0 12 cap 11 (by decide) W
  rw [show ((11 : Nat) : Int) = 11 from rfl, Nat.zero_add] at hi
  clear hb3
  go_wp2_with (go_at_call 11; refine (num_any _ _).mono ?_; rintro e w9 ⟨rfl, rfl⟩)
  go_ret
  exact ⟨rfl, B3.out⟩
theorem awake_any (w : World) : Calls Try.prog 15 #[] w fun e w' => e = .returned (.bool true) ∧ Below w.heap.size w w' := by
  have hg : Rep.good [1, 2, 3, 4, 5, 6, 7, 8, 9, 10, 11, 4294967295] = true := by decide +kernel
  obtain ⟨h1, h2⟩ := Rep.put_good _ hg
  have hb : Rep.good [1] = false := by decide +kernel
  obtain ⟨h3, h4⟩ := Rep.put_bad _ hb
  refine awake_walk ⟨(Rep.put [1, 2, 3, 4, 5, 6, 7, 8, 9, 10, 11, 4294967295]).toArray⟩ w (by rw [sz, h1, Rep.wires_length]; rfl) (Lib.hid fun v W hr => ?_) (Lib.hid fun W => ?_) (Lib.hid fun v W hr => ?_)
  · have h := jput_any v _ W hr
    rwa [h2] at h
  · have h := jget_any (Rep.put [1, 2, 3, 4, 5, 6, 7, 8, 9, 10, 11, 4294967295]) W
    rwa [Rep.get_put _ hg] at h
  · have h := jput_any v _ W hr
    rwa [h3, h4] at h
end Go.Proofs.Ytcljipgnegahhaa.J
