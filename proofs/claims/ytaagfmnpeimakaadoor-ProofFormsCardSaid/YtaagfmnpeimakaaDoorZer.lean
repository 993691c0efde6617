/-
  General: so many zero bytes pushed behind a row of bytes of the call's own ('append(b, make([]byte, m)...)'); new room of no bytes yet.
-/
import Derived.Test.YtaagfmnpeimakaaDoorBytes
import Derived.Lib.AppendZeros
namespace Go.Proofs.YtaagfmnpeimakaaDoor
open Go.RowKit
set_option maxRecDepth 100000
theorem zero_cells (n : Nat) : Builtin.zeroCells #[Value.int .u8 0] n = (Lib.byteCells (zeros n)).toArray := by
  apply Array.toList_inj.1
  apply List.ext_getElem
  · simp [Builtin.zeroCells, Lib.byteCells, zeros]
  · intro i h1 h2
    simp [Builtin.zeroCells, Lib.byteCells, zeros, Nat.mod_one]
theorem infoI : Tryd.prog.underlying 3 = some (.int .i64) := Tryd.underlying3
theorem run_zeros (w : World) (ty : TypeId) {base : Nat} {v : Value} {l : List UInt8} (hown : w.ownsRow base 5 1 v l.length (Lib.byteCells l)) (m : Nat) (hm : l.length + m ≤ 1000000) (hb : base ≤ w.heap.size) :
    ∃ v' w', (Builtin.append_ #[58, 3] ty #[v, .int .i64 (m : Int)]).run Tryd.prog w = .ok v' w' ∧ w'.ownsRow base 5 1 v' (l ++ zeros m).length (Lib.byteCells (l ++ zeros m)) ∧ w.grownBy w' v.ownBlock := by
  have ht := Tryd.underlying58
  have htn := Tryd.underlying3
  obtain ⟨i, hi, hz, hs, hby⟩ := info_parts infoB
  have hzl : (zeros m).length = m := by simp [zeros]
  have hlen : (Lib.byteCells (l ++ zeros m)).length = (l ++ zeros m).length * 1 := by rw [bc_length]; omega
  have hw : IntKind.i64.wrap (m : Int) = m := by rw [IntKind.wrap_i64]; omega
  have hneg : ¬ ((m : Int) < 0) := by omega
  have h48i : ¬ (281474976710656 < (m : Int) * (i.bytes : Int)) := by rw [hby]; omega
  have grown : ∀ (old : Nat) (row : Option Nat), (w.drew.alloc (.cells ((Lib.byteCells l).toArray ++ (Lib.byteCells (zeros m)).toArray ++ Builtin.zeroCells #[Value.int .u8 0] (grownCap w (l.length + m) old 5 - (l.length + m))) 5)).ownsRow base 5 1 (.slice (some ⟨w.heap.size, 0, none⟩) (l.length + m) (grownCap w (l.length + m) old 5)) (l ++ zeros m).length (Lib.byteCells (l ++ zeros m)) ∧
      w.grownBy (w.drew.alloc (.cells ((Lib.byteCells l).toArray ++ (Lib.byteCells (zeros m)).toArray ++ Builtin.zeroCells #[Value.int .u8 0] (grownCap w (l.length + m) old 5 - (l.length + m))) 5)) row := by
    intro old row
    have hge := grownCap_ge w (l.length + m) old 5
    have hcm : grownCap w (l.length + m) old 5 ≤ maxLen := grownCap_le_maxLen w (l.length + m) old 5 (by unfold maxLen; omega)
    have hll : (l ++ zeros m).length = l.length + m := by rw [List.length_append, hzl]
    refine ⟨⟨hlen, .inr ⟨w.heap.size, _, _, by rw [hll], hb, heap_alloc_new w.drew _, by rw [hll]; exact hge, hcm, ?_, ?_⟩⟩, ⟨rfl, rfl, rfl, by simp, fun k hk _ => heap_alloc_old w.drew _ hk⟩⟩
    · simp only [Array.size_append, List.size_toArray, size_zeroCells, bc_length, hzl]
      simp
      omega
    · simp only [Array.toList_append]
      rw [← bc_append]
      have : (l ++ zeros m).length * 1 = (Lib.byteCells (l ++ zeros m)).length := hlen.symm
      rw [this]
      exact List.take_left
  rcases hown.2 with ⟨rfl, h0⟩ | ⟨g, cap, cur, rfl, hbg, hg, hnc, hcm, hcs, htake⟩
  · obtain rfl : l = [] := List.length_eq_zero_iff.1 h0
    by_cases hm0 : m = 0
    · subst hm0
      refine ⟨.slice none 0 0, w, ?_, World.ownsRow_nil w base 5 1, ⟨rfl, rfl, rfl, Nat.le_refl _, fun _ _ _ => rfl⟩⟩
      have hw0 : IntKind.i64.wrap 0 = 0 := by decide
      simp [Builtin.append_, run_underlying ht, run_underlying htn, sizeOf, typeInfo, hi, asInt, asIntOf, hw0]
    · have hr := Lib.run_append_nil_zeros (P := Tryd.prog) w 58 3 ty 5 i (.int .u8 0) .i64 .i64 ht htn hi hz m (by omega) (by omega) (by omega) (by rw [hby]; omega)
      have hgr := grown 0 (Value.ownBlock (.slice none 0 0))
      have he : ∀ X : Array Value, (Lib.byteCells []).toArray ++ X = X := fun X => by simp [Lib.byteCells]
      simp only [List.length_nil, Nat.zero_add, he] at hgr
      rw [show ((Value.int IntKind.u8 0).cells) = #[Value.int IntKind.u8 0] from rfl, zero_cells m] at hr
      exact ⟨_, _, hr, hgr.1, hgr.2⟩
  · have hoc : ∀ u ∈ Lib.byteCells (zeros m), u.oneCell' = true := by
      intro u hu
      simp only [Lib.byteCells, List.mem_map] at hu
      obtain ⟨b, _, rfl⟩ := hu
      rfl
    have hll : (l ++ zeros m).length = l.length + m := by rw [List.length_append, hzl]
    have hzm : (Lib.byteCells (zeros m)).length = m := by rw [bc_length, hzl]
    by_cases hroom : l.length + m ≤ cap
    · have hst := run_storeCells_at Tryd.prog g l.length 5 (Lib.byteCells (zeros m)) 0 cur w hg (by rw [hzm]; omega) hoc
      rw [hzm] at hst
      simp only [Nat.add_zero] at hst
      refine ⟨.slice (some ⟨g, 0, none⟩) (l.length + m) cap, w.setRow g (cur.toList.take l.length ++ Lib.byteCells (zeros m) ++ cur.toList.drop (l.length + m)).toArray, ?_, ⟨hlen, .inr ⟨g, cap, _, by rw [hll], hbg, setRow_heap w g cur _ 5 _ hg, by rw [hll]; exact hroom, hcm, ?_, ?_⟩⟩, ⟨rfl, rfl, rfl, by simp, fun k _ hk => setRow_other w g k _ (fun e => hk (by simp [Value.ownBlock, e]))⟩⟩
      · by_cases hm0 : m = 0
        · subst hm0
          have hw0 : IntKind.i64.wrap 0 = 0 := by decide
          have hst0 : (storeCells ⟨g, l.length, none⟩ [] 0).run Tryd.prog w = .ok () (w.setRow g (cur.toList.take l.length ++ Lib.byteCells (zeros 0) ++ cur.toList.drop (l.length + 0)).toArray) := hst
          simp only [Nat.add_zero] at hst0
          have hle : l.length ≤ cap := by omega
          simp [Builtin.append_, run_underlying ht, run_underlying htn, sizeOf, typeInfo, hi, hs, asInt, asIntOf, hw0, hle, Addr.add_lit, hst0]
        · have hns : ¬ (m * i.size = 0) := by rw [hs]; omega
          have hcast : ((l.length : Int) + (m : Int)) ≤ (cap : Int) := by omega
          have hzc : Builtin.zeroCells (Value.int IntKind.u8 0).cells m = (Lib.byteCells (zeros m)).toArray := zero_cells m
          simp [Builtin.append_, run_underlying ht, run_underlying htn, sizeOf, typeInfo, zeroValue, hi, hz, hs, asInt, asIntOf, hw, hneg, hm0, h48i, hroom, hzc, Addr.add_lit, hst]
      · simp only [List.size_toArray, List.length_append, List.length_take, List.length_drop, Array.length_toList, hzm]
        omega
      · have ht2 : cur.toList.take l.length = Lib.byteCells l := by rw [← htake, Nat.mul_one]
        rw [ht2, ← bc_append, ← hlen]
        exact List.take_left
    · have hm0 : m ≠ 0 := by omega
      have hzc : Builtin.zeroCells (Value.int IntKind.u8 0).cells m = (Lib.byteCells (zeros m)).toArray := zero_cells m
      have holds : ∀ j u, (Lib.byteCells l)[j]? = some u → w.cell? ((⟨g, 0, none⟩ : Addr).add j) = some u := hown.cells (g := g) rfl
      have hfo := run_firstCells_some (P := Tryd.prog) w.drew i.size l.length ⟨g, 0, none⟩ l.length cap (Lib.byteCells l) (by rw [bc_length, hs]; omega) (by simpa using holds)
      rw [hs] at hfo
      have hfit : Builtin.nextslicecap (l.length + m) cap * i.bytes ≤ 281474976710656 := growslice_fits (by omega) (by rw [hby]; omega)
      have h48' : ¬ (281474976710656 < Builtin.nextslicecap (l.length + m) cap * i.bytes) := by omega
      have h63' : ¬ (9223372036854775807 < ((l.length : Int) + (m : Int))) := by omega
      have hgr := grown cap (Value.ownBlock (.slice (some ⟨g, 0, none⟩) l.length cap))
      refine ⟨_, _, ?_, hgr.1, hgr.2⟩
      simp [Builtin.append_, run_underlying ht, run_underlying htn, sizeOf, typeInfo, zeroValue, hi, hz, asInt, asIntOf, hw, hneg, h48i, hroom, h63', h48', hm0, hs, Question.forced, hfo, hzc, newRow, grownCap]
      congr 2
      apply Array.ext'
      simp [List.append_assoc, Value.cells]
/-- go_wp2_with (at_builtin; refine wp_zeros rfl _ _ rfl l m hown rfl rfl hlen ?_; intro v' w2 hown2). -/
theorem wp_zeros {ops : Array Oper} {rest : List Oper} {o : Oper} {a : Act} {Q : Exit → Act → World → Prop} (hgd : o.guard = none) (sl x : Operand)
    (ho : o.op = .call { callee := .builtin .append, args := #[sl, x], argTypes := #[58, 3] })
    {W w : World} (l : List UInt8) (m : Nat) {v : Value} (hown : Owns w W v l) (hs : a.eval sl = v) (hx : a.eval x = .int .i64 (m : Int)) (hl : l.length + m ≤ 1000000)
    (h : ∀ v' w', Owns w w' v' (l ++ zeros m) → wpList Tryd.prog ops Q rest (a.put o.dst v') w') : wpList Tryd.prog ops Q (o :: rest) a W := by
  obtain ⟨v', w', hr, h2, h3⟩ := run_zeros W o.type hown.1 m hl hown.2.size
  exact Lib.wpList_append_run W hgd sl x 58 3 ho _ _ hs hx v' w' hr (h v' w' ⟨h2, hown.2.grown h3 hown.2.size (fun k hk => (hown.1.lt k hk).1)⟩)
/-- New room for so many bytes. -/
theorem make_room (k : Nat) (h : k ≤ 100000) (W : World) : (Instr.makeSlice 58 (.int .i64 0) (.int .i64 (k : Int))).run Tryd.prog W = .ok (.slice (some ⟨W.heap.size, 0, none⟩) 0 k) (W.alloc (.cells (Lib.byteCells (zeros k)).toArray 5)) := by
  have hi := infoB
  cases hq : Tryd.prog.info? 5 with
  | none => rw [hq] at hi; cases hi
  | some i =>
    rw [hq] at hi
    simp only [Option.map_some, Option.some.injEq, Prod.mk.injEq] at hi
    obtain ⟨hz, hs, hb⟩ := hi
    have := run_make (P := Tryd.prog) W 58 5 i (.int .u8 0) Tryd.underlying58 hq hz .i64 .i64 0 k (by omega) (by omega) (by rw [hb]; omega) (by omega)
    rw [hs] at this
    simp only [Int.toNat_natCast, Nat.mul_one, Value.cells] at this
    rw [made_zeros] at this
    exact this
theorem room_owns (w W : World) (k : Nat) (hk : k ≤ 100000) (hb : Below w.heap.size w W) : Owns w (W.alloc (.cells (Lib.byteCells (zeros k)).toArray 5)) (.slice (some ⟨W.heap.size, 0, none⟩) 0 k) [] :=
  ⟨World.ownsRow_made W _ k hb.size (by unfold maxLen; omega) (by simp [bc_length, zeros]), hb.alloc hb.size _⟩
end Go.Proofs.YtaagfmnpeimakaaDoor
