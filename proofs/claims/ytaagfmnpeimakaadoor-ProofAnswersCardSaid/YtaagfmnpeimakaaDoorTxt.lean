/-
  Slices of texts of a call's own: made, pushed behind, kept while other memory is made.
-/
import Derived.Test.YtaagfmnpeimakaaDoorOwn
namespace Go.Proofs.YtaagfmnpeimakaaDoor
open Go.RowKit
theorem infoS : (Tryd.prog.info? 9).map (fun i => (i.zero, i.size, i.bytes)) = some (some (.string ⟨#[]⟩), 1, 16) := by kernel_rfl
def txts (ls : List (List UInt8)) : List Value := ls.map fun l => .string ⟨l.toArray⟩
theorem txts_append (l r : List (List UInt8)) : txts (l ++ r) = txts l ++ txts r := by simp [txts]
theorem txts_length (l : List (List UInt8)) : (txts l).length = l.length := by simp [txts]
/-- 'v' is a slice of texts of the call's own (the call began in 'w'), it holds 'ls'; nothing that was there has changed. -/
def OwnsT (w wr : World) (v : Value) (ls : List (List UInt8)) : Prop := wr.ownsRow w.heap.size 9 1 v ls.length (txts ls) ∧ Below w.heap.size w wr
theorem OwnsT.nil (w : World) : OwnsT w w (.slice none 0 0) [] := ⟨World.ownsRow_nil _ _ _ _, Below.refl _ _⟩
/-- .. also where other memory has been made since. -/
theorem OwnsT.below {w W W' : World} {v : Value} {ls : List (List UInt8)} (h : OwnsT w W v ls) (hb : Below W.heap.size W W') : OwnsT w W' v ls :=
  ⟨h.1.kept (row := none) ⟨hb.os, hb.tape, hb.output, hb.size, fun k hk _ => hb.block k hk⟩ (by cases hv : v.ownBlock <;> simp), h.2.trans (hb.mono h.2.size)⟩
/-- One text, just laid in a block, pushed behind. -/
theorem wp_pushT {ops : Array Oper} {rest : List Oper} {o : Oper} {a : Act} {Q : Exit → Act → World → Prop} (hgd : o.guard = none) (sl x : Operand)
    (ho : o.op = .call { callee := .builtin .append, args := #[sl, x], argTypes := #[55, 55] })
    {W w : World} (ls r : List (List UInt8)) {v : Value} (hown : OwnsT w W v ls)
    (hs : a.eval sl = v) (hx : a.eval x = .slice (some ⟨W.heap.size, 0, none⟩) r.length r.length) (hl : ls.length + r.length ≤ 1073741824)
    (h : ∀ v' w', OwnsT w w' v' (ls ++ r) → wpList Tryd.prog ops Q rest (a.put o.dst v') w') :
    wpList Tryd.prog ops Q (o :: rest) a (W.alloc (.cells (txts r).toArray 9)) := by
  obtain ⟨i0, hi, hz0, hz1, hz2⟩ := info_parts infoS
  obtain ⟨hown, hb⟩ := hown
  have hsz := hb.size
  refine wpList_append_own _ hgd sl x 55 ho w.heap.size 9 i0 (.string ⟨#[]⟩) 1 16 Tryd.underlying55 hi hz0 hz1 hz2 rfl (by decide) v ls.length (txts ls) hs (hown.alloc _) ⟨W.heap.size, 0, none⟩ r.length r.length (txts r) hx (by simp [txts]) ?_ ?_ ?_ ?_ ?_ ?_
  · exact new_cells W _ _
  · intro u hu
    simp only [txts, List.mem_map] at hu
    obtain ⟨b, _, rfl⟩ := hu
    rfl
  · unfold maxLen; omega
  · omega
  · simp; omega
  · intro v' w' hown' hgrow _
    refine h v' w' ⟨?_, ?_⟩
    · rw [txts_append, List.length_append]; exact hown'
    · exact (hb.alloc hsz _).grown hgrow (by simp; omega) (fun k hk => (hown.lt k hk).1)
end Go.Proofs.YtaagfmnpeimakaaDoor
