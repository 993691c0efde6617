/-
  General: a text pushed behind a row of bytes of the call's own.
-/
import Derived.Test.YtlolnbmdjnnkjaaOwn
import Derived.Lib.AppendStr
namespace Go.Proofs.Ytlolnbmdjnnkjaa
open Go.RowKit
theorem str_cells (l : List UInt8) : Lib.strCells ⟨l.toArray⟩ = Lib.byteCells l := by simp [Lib.strCells, Lib.byteCells]
theorem wp_pushS {ops : Array Oper} {rest : List Oper} {o : Oper} {a : Act} {Q : Exit → Act → World → Prop} (hgd : o.guard = none) (sl x : Operand)
    (ho : o.op = .call { callee := .builtin .append, args := #[sl, x], argTypes := #[36, 9] })
    {W w : World} (l r : List UInt8) {v : Value} (hown : Owns w W v l)
    (hs : a.eval sl = v) (hx : a.eval x = .string ⟨r.toArray⟩) (hl : l.length + r.length ≤ 1073741824)
    (h : ∀ v' w', Owns w w' v' (l ++ r) → wpList Try.prog ops Q rest (a.put o.dst v') w') :
    wpList Try.prog ops Q (o :: rest) a W := by
  obtain ⟨i0, hi, hz0, hz1, hz2⟩ := info_parts infoB
  obtain ⟨hown, hb⟩ := hown
  have hsz := hb.size
  refine Lib.wpList_append_own_string W hgd sl x 36 9 ho w.heap.size 5 i0 Try.underlying36 Try.underlying9 hi hz0 hz1 hz2 v l.length (Lib.byteCells l) hs hown ⟨r.toArray⟩ hx ?_ ?_ hsz ?_
  · rw [sz]; unfold maxLen; omega
  · rw [sz]; omega
  · intro v' w' hown' hgrow _
    refine h v' w' ⟨?_, hb.grown hgrow hsz (fun k hk => (hown.lt k hk).1)⟩
    rw [bc_append, List.length_append, ← sz r, ← str_cells r]
    exact hown'
end Go.Proofs.Ytlolnbmdjnnkjaa
