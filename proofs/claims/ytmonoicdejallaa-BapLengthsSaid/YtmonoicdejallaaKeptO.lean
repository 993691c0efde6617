/-
  Contracts of the laws' own helpers over options: what was lent is kept, marked room and all.
-/
import Derived.Test.YtmonoicdejallaaLendO
namespace Go.Proofs.Ytmonoicdejallaa
open Go.RowKit
theorem slice_opts (g n cap : Nat) (z : Int) (hz : z = (n : Int) + 2) (hc : n + 2 ≤ cap) (W : World) : (Instr.slice 22 (.slice (some ⟨g, 0, none⟩) n cap) none (some (.int .i64 z)) none).run Try.prog W = .ok (.slice (some ⟨g, 0, none⟩) (n + 2) cap) W := by
  have hs : (sizeOf (Try.prog.elem 22)).run Try.prog W = .ok 2 W := Try.sizeOf46 W
  subst hz
  rw [run_slice_h (P := Try.prog) (w := W) 22 (some ⟨g, 0, none⟩) n cap Try.underlying22 .i64 _ (by omega) (by omega), hs]
  have e : ((n : Int) + 2).toNat = n + 2 := by omega
  simp only [Result.andThen, sliced, e]
  by_cases h : cap = 0
  · omega
  · simp [h, Addr.add]
set_option maxHeartbeats 400000 in
theorem keptO_any (va : Value) (os : List Opt.Op) (g cap : Nat) (W : World) (hc : os.length + 2 ≤ cap) (h0 : ReadsO W (.slice (some ⟨g, 0, none⟩) (os.length + 2) cap) (os ++ [markO, markO])) (ha : ReadsO W va os) (hl : os.length ≤ 4611686018427387904) :
    Calls Try.prog 14 #[.slice (some ⟨g, 0, none⟩) os.length cap, va] W fun e w' => e = .returned (.bool true) ∧ Below W.heap.size W w' := by
  have hlen : (os ++ [markO, markO]).length = os.length + 2 := by simp
  have hcell : ∀ j u, (cellsO (os ++ [markO, markO]))[j]? = some u → W.cell? ⟨g, j, none⟩ = some u := by
    rcases h0 with ⟨h, _⟩ | ⟨b, off, cap', hv, _, hc⟩
    · simp at h
    · simp only [Value.slice.injEq, Option.some.injEq, Addr.mk.injEq] at hv
      obtain ⟨⟨rfl, rfl, _⟩, _⟩ := hv
      intro j u hj
      have := hc j u hj
      rwa [Nat.zero_add] at this
  have hlent : ReadsO W (.slice (some ⟨g, 0, none⟩) os.length cap) os := by
    refine .inr ⟨g, 0, cap, rfl, by omega, fun j u hj => ?_⟩
    rw [Nat.zero_add]
    refine hcell j u ?_
    rw [cellsO_append, List.getElem?_append_left (List.getElem?_eq_some_iff.1 hj).1]
    exact hj
  obtain ⟨c0, c1⟩ := cellsO_at (os ++ [markO, markO]) os.length (by simp)
  obtain ⟨d0, d1⟩ := cellsO_at (os ++ [markO, markO]) (os.length + 1) (by simp)
  have e0 : (os ++ [markO, markO])[os.length]'(by simp) = markO := by simp
  have e1 : (os ++ [markO, markO])[os.length + 1]'(by simp) = markO := by simp
  rw [e0] at c0 c1
  rw [e1] at d0 d1
  have C0 := Lib.hid (hcell _ _ c0)
  have C1 := Lib.hid (hcell _ _ c1)
  have D0 := Lib.hid (hcell _ _ d0)
  have D1 := Lib.hid (hcell _ _ d1)
  have HS := Lib.hid (sameO_any _ _ _ _ W hlent ha hl hl)
  have hr : decide (os = os) = true := by simp
  rw [hr] at HS
  have hsl := slice_opts g os.length cap
  have hi0 := fun W => opt_index g 0 (os.length + 2) cap os.length (by omega) W
  have hi1 := fun W => opt_index g 0 (os.length + 2) cap (os.length + 1) (by omega) W
  rw [show (0 + 2 * os.length) = 2 * os.length by omega] at hi0
  rw [show (0 + 2 * (os.length + 1)) = 2 * (os.length + 1) by omega, show ((os.length + 1 : Nat) : Int) = (os.length : Int) + 1 by simp] at hi1
  obtain ⟨p, cap0, rfl⟩ : ∃ p cap0, va = .slice p os.length cap0 := by
    obtain ⟨p, cap0, _, _, h, _⟩ := ha.at
    exact ⟨p, cap0, h⟩
  clear hlent h0 ha hcell c0 c1 d0 d1 e0 e1 hlen hr
  generalize ho : 2 * os.length = o8 at *
  generalize ho2 : 2 * (os.length + 1) = o9 at *
  generalize hn : os.length = n at *
  clear ho ho2 hn
  have hsl2 := fun W => hsl ((n : Int) + 2) rfl hc W
  obtain ⟨k1, k2, k3⟩ : EqO (.agg #[.int .i64 77777, .string ⟨#[]⟩]) (.agg #[.int .i64 77777, .string ⟨#[]⟩]) true := eqO_yes 77777 []
  have hgu := guardO
  clear hsl
  go_enter Try.func14, Try.ntmps14
  go_wp2_with (refine HS.out.mono ?_; rintro e w1 ⟨rfl, hb1⟩; have c0 := (hb1.cell (block_lt_of_cell C0.out)).trans C0.out; have c1 := (hb1.cell (block_lt_of_cell C1.out)).trans C1.out; have d0 := (hb1.cell (block_lt_of_cell D0.out)).trans D0.out; have d1 := (hb1.cell (block_lt_of_cell D1.out)).trans D1.out; have HB := Lib.hid hb1; clear hb1)
  go_ret
  exact ⟨rfl, HB.out⟩
end Go.Proofs.Ytmonoicdejallaa
