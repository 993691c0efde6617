/-
  General: a text as bytes that may be written, and back; so many new bytes.
-/
import Derived.Test.YtaagfmnpeimakaaDoorOwn
import Derived.Laws.MakeOwn
namespace Go.Proofs.YtaagfmnpeimakaaDoor
open Go.RowKit
/-- Block B holds these bytes from its head on, and they may be written. -/
def Holds (B : Nat) (wr : World) (L : List UInt8) : Prop := ∀ j, j < L.length → wr.cell? ⟨B, j, none⟩ = some (.int .u8 ((L.getD j 0).toNat : Int)) ∧ wr.frozen? ⟨B, j, none⟩ = false
theorem bytes_open (W : World) (l : List UInt8) : ∃ (cap : Nat) (W' : World), (convert 9 58 (.string ⟨l.toArray⟩)).run Tryd.prog W = .ok (.slice (some ⟨W.heap.size, 0, none⟩) l.length cap) W' ∧ Below W.heap.size W W' ∧ Holds W.heap.size W' l ∧ W.heap.size < W'.heap.size := by
  have h := run_bytes_of_string (P := Tryd.prog) W 9 58 5 ⟨l.toArray⟩ Tryd.underlying9 Tryd.underlying58 Tryd.underlying5
  have e0 : (ByteArray.mk l.toArray).size = l.toArray.size := rfl
  rw [e0] at h
  have hrow := fun j (hj : j < l.length) => bytesRow_at ⟨l.toArray⟩ (grownCap W l.toArray.size 0 5) j (by simpa using hj)
  generalize bytesRow ⟨l.toArray⟩ (grownCap W l.toArray.size 0 5) = R at *
  refine ⟨_, _, h, (Below.refl _ W).drew.alloc (Nat.le_refl _) _, ?_, by show _ < (W.heap.push _).size; simp⟩
  intro j hj
  have hj2 := hrow j hj
  have e1 := World.cell?_alloc_mark W.drew R 5 (R.size, R.size + 1) j
  have e2 := World.frozen?_alloc_mark W.drew R 5 R.size (R.size + 1) j
  have hsz : j < R.size := (Array.getElem?_eq_some_iff.1 hj2).1
  constructor
  · refine e1.trans (hj2.trans ?_)
    simp [List.getD, hj]
  · refine e2.trans ?_
    simp; omega
theorem Holds.back {B : Nat} {wr : World} {L : List UInt8} (h : Holds B wr L) (cap : Nat) : (convert 58 9 (.slice (some ⟨B, 0, none⟩) L.length cap)).run Tryd.prog wr = .ok (.string ⟨L.toArray⟩) wr := by
  refine run_convert_bytes_back wr 58 9 5 ⟨B, 0, none⟩ cap L Tryd.underlying58 Tryd.underlying5 Tryd.underlying9 ?_
  intro j hj
  have e : (⟨B, 0, none⟩ : Addr).add j = ⟨B, j, none⟩ := by unfold Addr.add; split <;> simp_all
  rw [e, (h j hj).1]
  simp [List.getD, hj]
theorem Holds.set {B : Nat} {wr : World} {L : List UInt8} (h : Holds B wr L) (i : Nat) (hi : i < L.length) (b : UInt8) : Holds B (wr.setCell ⟨B, i, none⟩ (.int .u8 (b.toNat : Int))) (L.set i b) := by
  intro j hj
  rw [List.length_set] at hj
  rw [World.frozen?_setCell]
  refine ⟨?_, (h j hj).2⟩
  by_cases hij : i = j
  · subst hij
    rw [World.cell?_setCell_same _ _ _ (h i hi).1]
    simp [List.getD, hi]
  · rw [World.cell?_setCell_other _ _ _ _ (by intro e; exact hij (by injection e)), (h j hj).1]
    simp [List.getD, hij]
theorem i64_and3 (n : Int) : bits BinOp.and IntKind.i64 n 3 = n % 4 := by
  have e : (BitVec.ofInt 64 (3 : Int)).toNat = 3 := ofInt_i64 3 (by omega)
  show IntKind.i64.wrap ((BitVec.ofInt 64 n &&& BitVec.ofInt 64 3).toNat : Int) = _
  rw [BitVec.toNat_and, e, show (3 : Nat) = 2 ^ 2 - 1 from rfl, Nat.and_two_pow_sub_one_eq_mod, BitVec.toNat_ofInt, i64_wrap _ (by omega)]
  omega
def zeros (k : Nat) : List UInt8 := List.replicate k 0
theorem made_zeros (k : Nat) : madeCells #[Value.int .u8 0] k = (Lib.byteCells (zeros k)).toArray := by
  apply Array.toList_inj.1
  apply List.ext_getElem
  · simp [Lib.byteCells, zeros, madeCells]
  · intro i h1 h2
    simp [madeCells, Lib.byteCells, zeros, Nat.mod_one]
/-- So many new bytes. -/
theorem make_bytes (k : Nat) (h : k ≤ 100000) (W : World) : (Instr.makeSlice 58 (.int .i64 (k : Int)) (.int .i64 (k : Int))).run Tryd.prog W = .ok (.slice (some ⟨W.heap.size, 0, none⟩) k k) (W.alloc (.cells (Lib.byteCells (zeros k)).toArray 5)) := by
  have hi := infoB
  cases hq : Tryd.prog.info? 5 with
  | none => rw [hq] at hi; cases hi
  | some i =>
    rw [hq] at hi
    simp only [Option.map_some, Option.some.injEq, Prod.mk.injEq] at hi
    obtain ⟨hz, hs, hb⟩ := hi
    have := run_make (P := Tryd.prog) W 58 5 i (.int .u8 0) Tryd.underlying58 hq hz .i64 .i64 k k (by omega) (by omega) (by rw [hb]; omega) (by omega)
    rw [hs] at this
    simp only [Int.toNat_natCast, Nat.mul_one, Value.cells] at this
    rw [made_zeros] at this
    exact this
end Go.Proofs.YtaagfmnpeimakaaDoor
