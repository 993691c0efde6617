/-
  General: a slice of bytes of the call's own, made out of a text ([]byte(s)) or grown: read, pushed behind, as a text.
-/
import Derived.Test.YtaagfmnpeimakaaDoorOwn
import Derived.Laws.CopyRow
import Derived.Lib.FrozenHead
namespace Go.Proofs.YtaagfmnpeimakaaDoor
open Go.RowKit
/-- Of so many cells none is frozen. -/
def Loose (fz : Nat × Nat) (n : Nat) : Prop := ∀ j, j < n → ¬(fz.1 ≤ j ∧ j < fz.2)
theorem store_loose (P : Program) (g o : Nat) (t : TypeId) (fz : Nat × Nat) : ∀ (vs : List Value) (i : Nat) (cur : Array Value) (w : World), w.heap[g]? = some (.cells cur t fz) → Loose fz cur.size → o + i + vs.length ≤ cur.size → (∀ v ∈ vs, v.oneCell' = true) →
    (storeCells ⟨g, o, none⟩ vs i).run P w = .ok () (w.setRow g (cur.toList.take (o + i) ++ vs ++ cur.toList.drop (o + i + vs.length)).toArray)
  | [], i, cur, w, hg, _, _, _ => by
    simp only [storeCells, List.append_nil, List.length_nil, Nat.add_zero, List.take_append_drop, Array.toArray_toList]
    rw [setRow_self w g cur t fz hg]
    rfl
  | v :: rest, i, cur, w, hg, hfz, hl, h1 => by
    have hi : o + i < cur.size := by simp at hl; omega
    have hadd : (⟨g, o, none⟩ : Addr).add i = ⟨g, o + i, none⟩ := by unfold Addr.add; split <;> simp_all
    have hcell : w.cell? ⟨g, o + i, none⟩ = some cur[o + i] := by simp [World.cell?, hg, hi]
    have hfro : w.frozen? ⟨g, o + i, none⟩ = false := by
      have := hfz (o + i) hi
      obtain ⟨lo, hi'⟩ := fz
      simp only [World.frozen?, hg, Bool.and_eq_false_iff, decide_eq_false_iff_not]
      simp only at this
      omega
    have hst : (store ((⟨g, o, none⟩ : Addr).add i) v).run P w = .ok () (w.setRow g (cur.setIfInBounds (o + i) v)) := by
      rw [hadd, run_store P w _ v _ (h1 v (by simp)), hcell]
      simp [hfro, setCell_eq_setRow w g (o + i) cur t fz v hg]
    have ih := store_loose P g o t fz rest (i + 1) (cur.setIfInBounds (o + i) v) (w.setRow g (cur.setIfInBounds (o + i) v)) (setRow_heap w g cur _ t _ hg) (by simpa using hfz) (by simp at hl ⊢; omega) (fun x hx => h1 x (by simp [hx]))
    simp only [storeCells, Sem.run_bind, hst, Result.andThen_ok, ih, setRow_setRow]
    congr 3
    have e := list_seg_step cur.toList (o + i) v rest (by simp at hl ⊢; omega)
    simpa [Array.toList_setIfInBounds, Nat.add_assoc] using e
/-- 'v' is a slice of bytes of the call's own, in block 'g', from 'b' on; it holds 'l'. -/
structure OwnsZ (b g : Nat) (W : World) (v : Value) (l : List UInt8) : Prop where
  base : b ≤ g
  at_ : ∃ cap cur fz, v = .slice (some ⟨g, 0, none⟩) l.length cap ∧ W.heap[g]? = some (.cells cur 5 fz) ∧ Loose fz cur.size ∧ l.length ≤ cap ∧ cap ≤ maxLen ∧ cur.size = cap ∧ cur.toList.take l.length = Lib.byteCells l
theorem OwnsZ.form {b g : Nat} {W : World} {v : Value} {l : List UInt8} (h : OwnsZ b g W v l) : ∃ cap, v = .slice (some ⟨g, 0, none⟩) l.length cap ∧ l.length ≤ cap := by
  obtain ⟨cap, cur, fz, e, _, _, hc, _⟩ := h.at_
  exact ⟨cap, e, hc⟩
theorem OwnsZ.lt {b g : Nat} {W : World} {v : Value} {l : List UInt8} (h : OwnsZ b g W v l) : g < W.heap.size := by
  obtain ⟨cap, cur, fz, _, hg, _⟩ := h.at_
  exact (Array.getElem?_eq_some_iff.1 hg).1
theorem OwnsZ.same {b g : Nat} {W W' : World} {v : Value} {l : List UInt8} (h : OwnsZ b g W v l) (e : W'.heap[g]? = W.heap[g]?) : OwnsZ b g W' v l := by
  obtain ⟨cap, cur, fz, hv, hg, hr⟩ := h.at_
  exact ⟨h.base, cap, cur, fz, hv, e.trans hg, hr⟩
theorem OwnsZ.below {b g : Nat} {W W' : World} {v : Value} {l : List UInt8} (h : OwnsZ b g W v l) (hb : Below W.heap.size W W') : OwnsZ b g W' v l := h.same (hb.block g h.lt)
theorem OwnsZ.cell {b g : Nat} {W : World} {v : Value} {l : List UInt8} (h : OwnsZ b g W v l) (j : Nat) (hj : j < l.length) : W.cell? ⟨g, j, none⟩ = some (.int .u8 ((l.getD j 0).toNat : Int)) := by
  obtain ⟨cap, cur, fz, _, hg, _, _, _, _, ht⟩ := h.at_
  rw [cell_of_row W g j cur 5 fz hg]
  have e : (Lib.byteCells l)[j]? = some (.int .u8 ((l.getD j 0).toNat : Int)) := by simp [Lib.byteCells, hj]
  rw [← ht, List.getElem?_take, if_pos hj] at e
  simpa using e
/-- A text as bytes. -/
theorem ownsZ_text (W : World) (l : List UInt8) (hl : l.length ≤ maxLen) : ∃ (cap : Nat) (W' : World), (convert 9 58 (.string ⟨l.toArray⟩)).run Tryd.prog W = .ok (.slice (some ⟨W.heap.size, 0, none⟩) l.length cap) W' ∧ Below W.heap.size W W' ∧ OwnsZ W.heap.size W.heap.size W' (.slice (some ⟨W.heap.size, 0, none⟩) l.length cap) l := by
  have h := run_bytes_of_string (P := Tryd.prog) W 9 58 5 ⟨l.toArray⟩ Tryd.underlying9 Tryd.underlying58 Tryd.underlying5
  rw [sz] at h
  have hge := grownCap_ge W l.length 0 5
  have hm := grownCap_le_maxLen W l.length 0 5 hl
  have hs : (bytesRow ⟨l.toArray⟩ (grownCap W l.length 0 5)).size = grownCap W l.length 0 5 := by
    unfold bytesRow
    rw [Array.size_append, Array.size_map, Array.size_replicate, sz]
    simp only [List.size_toArray]
    omega
  have hrow := fun j (hj : j < l.length) => bytesRow_at ⟨l.toArray⟩ (grownCap W l.length 0 5) j (by simpa using hj)
  generalize bytesRow ⟨l.toArray⟩ (grownCap W l.length 0 5) = R at *
  refine ⟨_, _, h, (Below.refl _ W).drew.alloc (Nat.le_refl _) _, Nat.le_refl _, _, R, _, rfl, heap_alloc_new W.drew _, fun j hj => by simp only; omega, hge, hm, by omega, ?_⟩
  apply List.ext_getElem?
  intro j
  by_cases hj : j < l.length
  · rw [List.getElem?_take, if_pos hj, Array.getElem?_toList, hrow j hj]
    simp [Lib.byteCells, hj]
  · rw [List.getElem?_take, if_neg hj, List.getElem?_eq_none (by rw [bc_length]; omega)]
/-- What pushing behind it leaves: the bytes in the same block or in a new one. -/
structure PushedZ (b g : Nat) (W : World) (v' : Value) (l : List UInt8) (w' : World) : Prop where
  row : ∃ g', OwnsZ b g' w' v' l ∧ (g' = g ∨ W.heap.size ≤ g')
  grown : W.grownBy w' (some g)
theorem run_pushZ (W : World) (b g : Nat) (ty : TypeId) (l r : List UInt8) {v : Value} (h : OwnsZ b g W v l) (hb : b ≤ W.heap.size) (G : Nat) (c : Nat) (hr : ∀ j u, (Lib.byteCells r)[j]? = some u → W.cell? ⟨G, j, none⟩ = some u) (hl : l.length + r.length ≤ 140737488355328) :
    ∃ v' w', (Builtin.append_ #[58, 58] ty #[v, .slice (some ⟨G, 0, none⟩) r.length c]).run Tryd.prog W = .ok v' w' ∧ PushedZ b g W v' (l ++ r) w' := by
  obtain ⟨i0, hi, hz0, hz1, hz2⟩ := info_parts infoB
  obtain ⟨cap, cur, fz, rfl, hg, hf, hc, hm, hcs, ht⟩ := h.at_
  have hadd : ∀ j, (⟨G, 0, none⟩ : Addr).add j = ⟨G, j, none⟩ := fun j => by unfold Addr.add; split <;> simp_all
  have hadd2 : ∀ j, (⟨g, 0, none⟩ : Addr).add j = ⟨g, j, none⟩ := fun j => by unfold Addr.add; split <;> simp_all
  have hnews : ∀ j u, (Lib.byteCells r)[j]? = some u → W.cell? ((⟨G, 0, none⟩ : Addr).add j) = some u := fun j u hj => by rw [hadd]; exact hr j u hj
  have h1 : ∀ u ∈ Lib.byteCells r, u.oneCell' = true := by
    intro u hu
    simp only [Lib.byteCells, List.mem_map] at hu
    obtain ⟨x, _, rfl⟩ := hu
    rfl
  have hrl : (Lib.byteCells r).length = r.length * i0.size := by rw [hz1, bc_length, Nat.mul_one]
  by_cases hroom : l.length + r.length ≤ cap
  · have hst := store_loose Tryd.prog g (l.length * i0.size) 5 fz (Lib.byteCells r) 0 cur W hg hf (by rw [hz1, bc_length]; omega) h1
    have hf1 := run_firstCells_some (P := Tryd.prog) W i0.size r.length ⟨G, 0, none⟩ r.length c (Lib.byteCells r) hrl hnews
    simp only [Nat.add_zero, List.append_assoc] at hst
    refine ⟨.slice (some ⟨g, 0, none⟩) (l.length + r.length) cap, _, by simp [Builtin.append_, run_underlying Tryd.underlying58, sizeOf, typeInfo, hi, Builtin.lenOf, hroom, hf1, Addr.add_lit, hst]; rfl, ⟨g, ⟨h.base, cap, _, fz, by rw [List.length_append], setRow_heap W g cur _ 5 _ hg, ?_, by rw [List.length_append]; exact hroom, hm, ?_, ?_⟩, .inl rfl⟩, ⟨rfl, rfl, rfl, by simp, fun k _ hk => setRow_other W g k _ (fun e => hk (by rw [e]))⟩⟩
    · have e : (cur.toList.take (l.length * i0.size) ++ (Lib.byteCells r ++ cur.toList.drop (l.length * i0.size + (Lib.byteCells r).length))).toArray.size = cur.size := by
        simp only [List.size_toArray, List.length_append, List.length_take, List.length_drop, Array.length_toList, bc_length, hz1]
        omega
      rw [e]
      exact hf
    · simp only [List.size_toArray, List.length_append, List.length_take, List.length_drop, Array.length_toList, bc_length, hz1]
      omega
    · rw [hz1, Nat.mul_one, ht, ← List.append_assoc, ← bc_append, List.length_append]
      have e : (Lib.byteCells (l ++ r)).length = l.length + r.length := by rw [bc_length, List.length_append]
      simp only
      rw [← e]
      exact List.take_left
  · have holds : ∀ j u, (Lib.byteCells l)[j]? = some u → W.cell? ((⟨g, 0, none⟩ : Addr).add j) = some u := fun j u hj => by
      rw [hadd2, cell_of_row W g j cur 5 fz hg]
      rw [← ht, List.getElem?_take] at hj
      split at hj
      · simpa using hj
      · cases hj
    have hrun := run_append_grow (P := Tryd.prog) W 58 ty 5 i0 (.int .u8 0) Tryd.underlying58 hi hz0 ⟨g, 0, none⟩ l.length cap (Lib.byteCells l) (by rw [hz1, bc_length, Nat.mul_one]) holds ⟨G, 0, none⟩ r.length c (Lib.byteCells r) hrl hnews (by omega) (by omega) (growslice_fits (by omega) (by rw [hz2]; omega))
    have hge := grownCap_ge W (l.length + r.length) cap 5
    have hcm := grownCap_le_maxLen W (l.length + r.length) cap 5 (by unfold maxLen; omega)
    refine ⟨_, _, hrun, ⟨W.heap.size, ⟨hb, _, _, (0, 0), by rw [List.length_append], heap_alloc_new W.drew _, fun j _ h2 => absurd h2.2 (Nat.not_lt_zero j), by rw [List.length_append]; exact hge, hcm, ?_, ?_⟩, .inr (Nat.le_refl _)⟩, ⟨rfl, rfl, rfl, by simp, fun k hk _ => heap_alloc_old W.drew _ hk⟩⟩
    · have hz : (Value.int IntKind.u8 0).cells.size = 1 := rfl
      simp only [Array.size_append, List.size_toArray, size_zeroCells, hz, bc_length]
      omega
    · simp only [Array.toList_append, List.append_assoc, List.length_append]
      rw [← List.append_assoc, ← bc_append]
      have e : (Lib.byteCells (l ++ r)).length = l.length + r.length := by rw [bc_length, List.length_append]
      rw [← e]
      exact List.take_left
/-- At an operation, in a plain region: (at_builtin; refine wp_pushZ rfl _ _ rfl b g l r hown hsz hr rfl rfl hlen ?_; intro v' w' h'). -/
theorem wp_pushZ {ops : Array Oper} {rest : List Oper} {o : Oper} {a : Act} {Q : Exit → Act → World → Prop} (hgd : o.guard = none) (sl x : Operand)
    (ho : o.op = .call { callee := .builtin .append, args := #[sl, x], argTypes := #[58, 58] })
    {W : World} (b g : Nat) (l r : List UInt8) {v : Value} {G c : Nat} (hown : OwnsZ b g W v l) (hsz : b ≤ W.heap.size) (hr : ∀ j u, (Lib.byteCells r)[j]? = some u → W.cell? ⟨G, j, none⟩ = some u)
    (hs : a.eval sl = v) (hx : a.eval x = .slice (some ⟨G, 0, none⟩) r.length c) (hl : l.length + r.length ≤ 140737488355328)
    (h : ∀ v' w', PushedZ b g W v' (l ++ r) w' → wpList Tryd.prog ops Q rest (a.put o.dst v') w') :
    wpList Tryd.prog ops Q (o :: rest) a W := by
  refine wpList_plain hgd fun K hK => ?_
  obtain ⟨v', w', hrun, hp⟩ := run_pushZ W b g o.type l r hown hsz G c hr hl
  unfold Oper.wp execOp
  simp only [ho, resolve, invoke, builtin, Sem.run_bind, Sem.run_pure, Result.andThen_ok, List.map_toArray, List.map_cons, List.map_nil, hs, hx, hrun]
  exact hK _ _ (h v' w' hp)
/-- Bytes just laid. -/
theorem newB (W : World) (r : List UInt8) : ∀ j u, (Lib.byteCells r)[j]? = some u → (W.alloc (.cells (Lib.byteCells r).toArray 5)).cell? ⟨W.heap.size, j, none⟩ = some u := fun j u hj => by
  have := new_cells W (Lib.byteCells r) 5 j u hj
  have e : (⟨W.heap.size, 0, none⟩ : Addr).add j = ⟨W.heap.size, j, none⟩ := by unfold Addr.add; split <;> simp_all
  rwa [e] at this
/-- As a text again. -/
theorem OwnsZ.text {b g : Nat} {W : World} {v : Value} {l : List UInt8} (h : OwnsZ b g W v l) : (convert 58 9 v).run Tryd.prog W = .ok (.string ⟨l.toArray⟩) W := by
  have hc := h.cell
  obtain ⟨cap, rfl, _⟩ := h.form
  refine run_convert_bytes_back W 58 9 5 ⟨g, 0, none⟩ cap l Tryd.underlying58 Tryd.underlying5 Tryd.underlying9 ?_
  intro j hj
  have e : (⟨g, 0, none⟩ : Addr).add j = ⟨g, j, none⟩ := by unfold Addr.add; split <;> simp_all
  rw [e, hc j hj]
  simp [List.getD, hj]
end Go.Proofs.YtaagfmnpeimakaaDoor
