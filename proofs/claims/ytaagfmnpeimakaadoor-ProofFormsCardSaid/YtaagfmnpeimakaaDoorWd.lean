/-
  General: slices of 32-bit words of the call's own: made, read, written; how a walk spells a word's operations.
-/
import Derived.Test.YtaagfmnpeimakaaDoorOwn
import Derived.Laws.OwnMore
import Derived.Laws.MakeOwn
import Derived.Laws.BitsAllLaws
namespace Go.Proofs.YtaagfmnpeimakaaDoor
open Go.RowKit
theorem infoW : (Tryd.prog.info? 76).map (fun i => (i.zero, i.size, i.bytes)) = some (some (.int .u32 0), 1, 4) := by kernel_rfl
abbrev Wrd := BitVec 32
def cellsW (l : List Wrd) : List Value := l.map fun x => .int .u32 (x.toNat : Int)
theorem cellsW_length (l : List Wrd) : (cellsW l).length = l.length := by simp [cellsW]
theorem cellsW_at (l : List Wrd) (k : Nat) (h : k < l.length) : (cellsW l)[k]? = some (.int .u32 ((l.getD k 0).toNat : Int)) := by simp [cellsW, h]
theorem cellsW_set (l : List Wrd) (k : Nat) (x : Wrd) : cellsW (l.set k x) = (cellsW l).set k (.int .u32 (x.toNat : Int)) := by simp [cellsW, List.map_set]
theorem addW (b j : Nat) : (⟨b, 0, none⟩ : Addr).add j = ⟨b, j, none⟩ := by unfold Addr.add; split <;> simp_all
set_option maxRecDepth 100000 in
theorem indexW (b n cap k : Nat) (hk : k < n) (W : World) : (Instr.indexAt 77 (.slice (some ⟨b, 0, none⟩) n cap) (.int .i64 (k : Int))).run Tryd.prog W = .ok (.pointer (some ⟨b, k, none⟩)) W := by
  have hs : (sizeOf (Tryd.prog.elem 77)).run Tryd.prog W = .ok 1 W := Tryd.sizeOf76 W
  have e := run_indexAt_slice (P := Tryd.prog) W 77 ⟨b, 0, none⟩ n cap .i64 (k : Int) Tryd.underlying77
  rw [if_pos (by omega), hs] at e
  simp only [Result.andThen, Int.toNat_natCast] at e
  rw [e, Nat.mul_one, addW]
/-- 'v' is a slice of words of the call's own, in a block from 'b' on; it holds 'A'. -/
def RowW (b : Nat) (W : World) (v : Value) (A : List Wrd) : Prop := W.ownsRow b 76 1 v A.length (cellsW A)
theorem RowW.full {b : Nat} {W : World} {v : Value} {A : List Wrd} (h : RowW b W v A) (h0 : 0 < A.length) : ∃ g cap, v = .slice (some ⟨g, 0, none⟩) A.length cap ∧ b ≤ g ∧ A.length ≤ cap ∧ g < W.heap.size := by
  rcases h.2 with ⟨_, h1⟩ | ⟨g, cap, cur, rfl, hb, hg, hl, _⟩
  · omega
  · refine ⟨g, cap, rfl, hb, hl, ?_⟩
    rcases Nat.lt_or_ge g W.heap.size with hlt | hge
    · exact hlt
    · rw [Array.getElem?_eq_none hge] at hg; cases hg
theorem RowW.below {b : Nat} {W W' : World} {v : Value} {A : List Wrd} (h : RowW b W v A) (hb : Below W.heap.size W W') : RowW b W' v A :=
  World.ownsRow.kept (row := none) h ⟨hb.os, hb.tape, hb.output, hb.size, fun k hk _ => hb.block k hk⟩ (by cases hv : v.ownBlock <;> simp)
theorem RowW.lt {b : Nat} {W : World} {v : Value} {A : List Wrd} (h : RowW b W v A) (k : Nat) (hk : v.ownBlock = some k) : b ≤ k ∧ k < W.heap.size := World.ownsRow.lt h k hk
/-- It hangs on its own block alone. -/
theorem RowW.same {b : Nat} {W W' : World} {v : Value} {A : List Wrd} (h : RowW b W v A) (e : ∀ k, v.ownBlock = some k → W'.heap[k]? = W.heap[k]?) : RowW b W' v A := by
  refine ⟨h.1, ?_⟩
  rcases h.2 with h | ⟨g, cap, cur, rfl, h1, h2, h3⟩
  · exact .inl h
  · exact .inr ⟨g, cap, cur, rfl, h1, (e g rfl).trans h2, h3⟩
theorem RowW.cell {b g cap n : Nat} {W : World} {A : List Wrd} (h : RowW b W (.slice (some ⟨g, 0, none⟩) n cap) A) (k : Nat) (hk : k < A.length) : W.cell? ⟨g, k, none⟩ = some (.int .u32 ((A.getD k 0).toNat : Int)) := by
  have hn : n = A.length := by
    rcases h.2 with ⟨e, _⟩ | ⟨g', c', cur, e, _⟩
    · cases e
    · simp only [Value.slice.injEq] at e; exact e.2.1
  subst hn
  have hc := World.ownsRow.cells (g := g) h rfl _ _ (cellsW_at A k hk)
  rwa [addW] at hc
theorem RowW.frozen {b g cap : Nat} {W : World} {A : List Wrd} (h : RowW b W (.slice (some ⟨g, 0, none⟩) A.length cap) A) (o : Nat) : W.frozen? ⟨g, o, none⟩ = false := World.ownsRow.frozenAt h o
theorem RowW.set {b g cap : Nat} {W : World} {A : List Wrd} (h : RowW b W (.slice (some ⟨g, 0, none⟩) A.length cap) A) (k : Nat) (x : Wrd) : RowW b (W.setCell ⟨g, k, none⟩ (.int .u32 (x.toNat : Int))) (.slice (some ⟨g, 0, none⟩) A.length cap) (A.set k x) := by
  have h1 := (World.ownsRow.stored h k (.int .u32 (x.toNat : Int))).1
  unfold RowW
  rw [List.length_set, cellsW_set]
  exact h1
theorem RowW.laid (w : World) (b : Nat) (hb : b ≤ w.heap.size) (A : List Wrd) (hl : A.length ≤ 100000) (C : Array Value) (h : C = (cellsW A).toArray) : RowW b (w.alloc (.cells C 76)) (.slice (some ⟨w.heap.size, 0, none⟩) A.length A.length) A := by
  subst h
  have := World.ownsRow_lit (base := b) (e := 76) (size := 1) w (cellsW A).toArray A.length hb (by unfold maxLen; omega) (by simp [cellsW])
  simpa [RowW] using this
/-- So many new words. -/
theorem make_words (k : Nat) (h : k ≤ 100000) (W : World) : (Instr.makeSlice 77 (.int .i64 (k : Int)) (.int .i64 (k : Int))).run Tryd.prog W = .ok (.slice (some ⟨W.heap.size, 0, none⟩) k k) (W.alloc (.cells (cellsW (List.replicate k 0)).toArray 76)) := by
  have hi := infoW
  cases hq : Tryd.prog.info? 76 with
  | none => rw [hq] at hi; cases hi
  | some i =>
    rw [hq] at hi
    simp only [Option.map_some, Option.some.injEq, Prod.mk.injEq] at hi
    obtain ⟨hz, hs, hb⟩ := hi
    have := run_make (P := Tryd.prog) W 77 76 i (.int .u32 0) Tryd.underlying77 hq hz .i64 .i64 k k (by omega) (by omega) (by rw [hb]; omega) (by omega)
    rw [hs] at this
    simp only [Int.toNat_natCast, Nat.mul_one, Value.cells] at this
    have e : madeCells #[Value.int .u32 0] k = (cellsW (List.replicate k 0)).toArray := by
      apply Array.toList_inj.1
      apply List.ext_getElem
      · simp [cellsW, madeCells]
      · intro i h1 h2
        simp [madeCells, cellsW, Nat.mod_one]
    rw [e] at this
    exact this
theorem w_and (a b : Wrd) : bits .and .u32 (a.toNat : Int) (b.toNat : Int) = ((a &&& b).toNat : Int) := by
  rw [u32_and_nat _ _ a.isLt b.isLt, BitVec.toNat_and]
theorem w_or (a b : Wrd) : bits .or .u32 (a.toNat : Int) (b.toNat : Int) = ((a ||| b).toNat : Int) := by
  rw [u32_or_nat _ _ a.isLt b.isLt, BitVec.toNat_or]
theorem w_xor (a b : Wrd) : bits .xor .u32 (a.toNat : Int) (b.toNat : Int) = ((a ^^^ b).toNat : Int) := by
  rw [u32_xor_nat _ _ a.isLt b.isLt, BitVec.toNat_xor]
theorem w_not (a : Wrd) : bits .xor .u32 (a.toNat : Int) 4294967295 = ((a ^^^ 4294967295#32).toNat : Int) := w_xor a 4294967295#32
theorem w_add (a b : Wrd) : IntKind.u32.wrap ((a.toNat : Int) + (b.toNat : Int)) = ((a + b).toNat : Int) := by
  rw [IntKind.wrap_u32', BitVec.toNat_add]
  omega
theorem w_shl (a : Wrd) (t : Nat) : IntKind.u32.wrap ((a.toNat : Int) * 2 ^ t) = ((a <<< t).toNat : Int) := by
  rw [IntKind.wrap_u32', BitVec.toNat_shiftLeft, Nat.shiftLeft_eq, Int.natCast_emod, Int.natCast_mul, Int.natCast_pow]
  rfl
theorem w_shr (a : Wrd) (t : Nat) : (a.toNat : Int) / 2 ^ t = ((a >>> t).toNat : Int) := by
  rw [BitVec.toNat_ushiftRight, Nat.shiftRight_eq_div_pow, Int.natCast_ediv, Int.natCast_pow]
  rfl
theorem w_byte (y : UInt8) : (y.toNat : Int) = ((BitVec.ofNat 32 y.toNat).toNat : Int) := by
  have := y.toNat_lt
  rw [BitVec.toNat_ofNat, Nat.mod_eq_of_lt (by omega)]
end Go.Proofs.YtaagfmnpeimakaaDoor
