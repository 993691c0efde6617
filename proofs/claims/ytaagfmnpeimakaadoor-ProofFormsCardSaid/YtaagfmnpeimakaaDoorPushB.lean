/-
  General: a few bytes pushed behind a row of bytes of the call's own, at a step of a region that draws.
-/
import Derived.Test.YtaagfmnpeimakaaDoorOwn
import Derived.RegionTactic
namespace Go.Proofs.YtaagfmnpeimakaaDoor
open Go.RowKit
theorem Owns.below {w W W' : World} {v : Value} {l : List UInt8} (h : Owns w W v l) (hb : Below W.heap.size W W') : Owns w W' v l :=
  ⟨h.1.kept (row := none) ⟨hb.os, hb.tape, hb.output, hb.size, fun k hk _ => hb.block k hk⟩ (by cases hv : v.ownBlock <;> simp), h.2.trans (hb.mono h.2.size)⟩
theorem newOwn (W : World) (r : List UInt8) (C : Array Value) (h : C = (Lib.byteCells r).toArray) : ∀ j u, (Lib.byteCells r)[j]? = some u → (W.alloc (.cells C 5)).cell? ((⟨W.heap.size, 0, none⟩ : Addr).add j) = some u := by
  subst h
  exact new_cells W (Lib.byteCells r) 5
/-- go_region_law (refine step_pushB rfl _ _ rfl l r hown hr rfl rfl hlen ?_; intro v' w2 hown2). -/
theorem step_pushB {ops : Array Oper} {o : Oper} {a : Act} {K : Act → World → Prop} {Q : Exit → Act → World → Prop} {E : Prop} (hgd : o.guard = none) (sl x : Operand)
    (ho : o.op = .call { callee := .builtin .append, args := #[sl, x], argTypes := #[58, 58] })
    {W w : World} (l r : List UInt8) {v : Value} {ad : Addr} {c : Nat} (hown : Owns w W v l) (hr : ∀ j u, (Lib.byteCells r)[j]? = some u → W.cell? (ad.add j) = some u)
    (hs : a.eval sl = v) (hx : a.eval x = .slice (some ad) r.length c) (hl : l.length + r.length ≤ 1073741824)
    (h : ∀ v' w', Owns w w' v' (l ++ r) → K (a.put o.dst v') w') :
    if Region.wanted o (yielded ops a.tmps) = true then Oper.wp Tryd.prog o a W K Q else E := by
  have hw : Region.wanted o (yielded ops a.tmps) = true := by simp [Region.wanted, hgd]
  rw [if_pos hw]
  obtain ⟨i0, hi, hz0, hz1, hz2⟩ := info_parts infoB
  obtain ⟨hown, hb⟩ := hown
  refine wp_append_own _ sl x 58 ho w.heap.size 5 i0 (.int .u8 0) 1 1 Tryd.underlying58 hi hz0 hz1 hz2 rfl (by decide) v l.length (Lib.byteCells l) hs hown ad r.length c (Lib.byteCells r) hx (by simp [Lib.byteCells]) hr ?_ (by unfold maxLen; omega) (by omega) hb.size ?_
  · intro u hu
    simp only [Lib.byteCells, List.mem_map] at hu
    obtain ⟨b, _, rfl⟩ := hu
    rfl
  · intro v' w' hown' hgrow _
    refine h v' w' ⟨?_, hb.grown hgrow hb.size (fun k hk => (hown.lt k hk).1)⟩
    rw [bc_append, List.length_append]
    exact hown'
end Go.Proofs.YtaagfmnpeimakaaDoor
