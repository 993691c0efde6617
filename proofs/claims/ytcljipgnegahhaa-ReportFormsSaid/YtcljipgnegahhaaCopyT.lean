/-
  General: a text copied into new bytes: copy(make([]byte, n), s).
-/
import Derived.Test.YtcljipgnegahhaaBytes
import Derived.Laws.CopyOwn
namespace Go.Proofs.Ytcljipgnegahhaa
open Go.RowKit
theorem bytes_one (l : List UInt8) : ∀ v ∈ Lib.byteCells l, v.oneCell' = true := by
  intro v hv
  simp only [Lib.byteCells, List.mem_map] at hv
  obtain ⟨b, _, rfl⟩ := hv
  rfl
theorem run_copy_text (w : World) (ty : TypeId) (g n cap : Nat) (l : List UInt8) (cur : Array Value) (hg : w.heap[g]? = some (.cells cur 5 (0, 0))) (hn : cur.size = n) :
    (Builtin.copy_ #[39, 9] ty #[.slice (some ⟨g, 0, none⟩) n cap, .string ⟨l.toArray⟩]).run Try.prog w = .ok (goInt (Nat.min l.length n)) (w.setRow g (Lib.byteCells (l.take n) ++ cur.toList.drop (Nat.min l.length n)).toArray) := by
  have hlen : (Lib.byteCells (l.take n)).length = Nat.min l.length n := by rw [bc_length, List.length_take]; exact Nat.min_comm _ _
  have hle : Nat.min l.length n ≤ n := Nat.min_le_right _ _
  have hst := run_storeCells_at Try.prog g 0 5 (Lib.byteCells (l.take n)) 0 cur w hg (by rw [hlen]; omega) (bytes_one _)
  have hs := infoB
  have hsz : (ByteArray.mk l.toArray).size = l.length := sz l
  have htk : List.take (Nat.min l.length n) (List.map (fun b : UInt8 => Value.int IntKind.u8 (b.toNat : Int)) l) = Lib.byteCells (l.take n) := by
    rw [← List.map_take]
    show Lib.byteCells (l.take (Nat.min l.length n)) = _
    congr 1
    rcases Nat.le_total l.length n with h | h
    · rw [show Nat.min l.length n = l.length from Nat.min_eq_left h, List.take_length, List.take_of_length_le h]
    · rw [show Nat.min l.length n = n from Nat.min_eq_right h]
  rw [hlen] at hst
  simp only [Nat.add_zero, Nat.zero_add, List.take_zero, List.nil_append] at hst
  cases hq : Try.prog.info? 5 with
  | none => simp [hq] at hs
  | some i =>
    simp [Builtin.copy_, run_underlying Try.underlying39, Builtin.lenOf, Builtin.firstCells, sizeOf, typeInfo, hq, hsz]
    rw [htk, hst]
    simp [Result.andThen]
/-- .. as an arm of the walk. -/
theorem wp_copy_text {ops : Array Oper} {rest : List Oper} {o : Oper} {a : Act} {Q : Exit → Act → World → Prop} (hgd : o.guard = none) (d s : Operand)
    (ho : o.op = .call { callee := .builtin .copy, args := #[d, s], argTypes := #[39, 9] })
    {W : World} (n : Nat) (l : List UInt8) (hd : a.eval d = .slice (some ⟨W.heap.size, 0, none⟩) n n) (hs : a.eval s = .string ⟨l.toArray⟩)
    (h : ∀ v' w' T, T.length = n → w'.heap[W.heap.size]? = some (.cells (Lib.byteCells T).toArray 5 (0, 0)) → Below W.heap.size W w' → wpList Try.prog ops Q rest (a.put o.dst v') w') :
    wpList Try.prog ops Q (o :: rest) a (W.alloc (.cells (Lib.byteCells (zeros n)).toArray 5)) := by
  refine wpList_plain hgd fun K hK => ?_
  have hg := heap_alloc_new W (.cells (Lib.byteCells (zeros n)).toArray 5)
  have hrun := run_copy_text (W.alloc (.cells (Lib.byteCells (zeros n)).toArray 5)) o.type W.heap.size n n l _ hg (by simp [Lib.byteCells, zeros])
  have hrow := setRow_heap _ W.heap.size _ (Lib.byteCells (l.take n) ++ (Lib.byteCells (zeros n)).toArray.toList.drop (Nat.min l.length n)).toArray _ _ hg
  have hb := below_setRow ((Below.refl W.heap.size W).alloc (Nat.le_refl _) (.cells (Lib.byteCells (zeros n)).toArray 5)) (Nat.le_refl _) (Lib.byteCells (l.take n) ++ (Lib.byteCells (zeros n)).toArray.toList.drop (Nat.min l.length n)).toArray
  have e : Lib.byteCells (l.take n) ++ (Lib.byteCells (zeros n)).toArray.toList.drop (Nat.min l.length n) = Lib.byteCells (l.take n ++ (zeros n).drop (Nat.min l.length n)) := by
    rw [bc_append]
    congr 1
    simp [Lib.byteCells]
  rw [e] at hrun hrow hb
  have hl : (l.take n ++ (zeros n).drop (Nat.min l.length n)).length = n := by
    have h1 : (zeros n).length = n := by simp [zeros]
    rw [List.length_append, List.length_take, List.length_drop, h1]
    have h2 : Nat.min l.length n = min n l.length := Nat.min_comm _ _
    omega
  unfold Oper.wp execOp
  simp only [ho, resolve, invoke, builtin, Sem.run_bind, Sem.run_pure, Result.andThen_ok, List.map_toArray, List.map_cons, List.map_nil, hd, hs, hrun]
  exact hK _ _ (h _ _ _ hl hrow hb)
/-- A row of bytes as a text, and later. -/
theorem row_text {w W : World} {g n : Nat} {T : List UInt8} (hT : T.length = n) (h : w.heap[g]? = some (.cells (Lib.byteCells T).toArray 5 (0, 0))) (hb : Below w.heap.size w W) :
    (convert 39 9 (.slice (some ⟨g, 0, none⟩) n n)).run Try.prog W = .ok (.string ⟨T.toArray⟩) W := by
  subst hT
  refine run_convert_bytes_back W 39 9 5 ⟨g, 0, none⟩ T.length T Try.underlying39 Try.underlying5 Try.underlying9 ?_
  intro j hj
  have e : (⟨g, 0, none⟩ : Addr).add j = ⟨g, j, none⟩ := by unfold Addr.add; split <;> simp_all
  have hlt : g < w.heap.size := (Array.getElem?_eq_some_iff.1 h).1
  rw [e, hb.cell (p := ⟨g, j, none⟩) hlt]
  simp [World.cell?, h, Lib.byteCells, hj]
end Go.Proofs.Ytcljipgnegahhaa
