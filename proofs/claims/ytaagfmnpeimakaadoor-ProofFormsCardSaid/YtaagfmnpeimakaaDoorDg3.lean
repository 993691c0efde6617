/-
  The document's MD5: what its loops hold.
-/
import Derived.Test.YtaagfmnpeimakaaDoorDg2
import Derived.Test.YtaagfmnpeimakaaDoorOwnZ
import Derived.Deep.LoopGhost
namespace Go.Proofs.YtaagfmnpeimakaaDoor.Dig
def row (h : St) : List (BitVec 32) := [h.a, h.x, h.c, h.d]
def nz (n : Nat) : Nat := (119 - n % 64) % 64
theorem zeros_succ (k : Nat) : zeros k ++ [0] = zeros (k + 1) := by
  unfold zeros
  rw [List.replicate_succ']
theorem zeros_length (k : Nat) : (zeros k).length = k := by simp [zeros]
theorem nz_stop (n k : Nat) (hk : k ≤ nz n) : ((n + 1 + k) % 64 = 56) ↔ k = nz n := by unfold nz at *; omega
def some8 (n k : Nat) : List UInt8 := (List.range k).map fun j => UInt8.ofNat (8 * n / 256 ^ j)
theorem some8_succ (n k : Nat) : some8 n k ++ [UInt8.ofNat (8 * n / 256 ^ k)] = some8 n (k + 1) := by
  unfold some8
  rw [List.range_succ, List.map_append]
  rfl
theorem some8_length (n k : Nat) : (some8 n k).length = k := by simp [some8]
theorem pad_length (l : List UInt8) : (pad l).length = l.length + 1 + nz l.length + 8 := by
  simp [pad, nz, zeros, len8]
  omega
theorem pad_64 (l : List UInt8) : (pad l).length % 64 = 0 := by
  rw [pad_length]
  unfold nz
  omega
def outs (h : St) (i : Nat) : List UInt8 := ((row h).take i).flatMap four
def some4 (x : BitVec 32) (j : Nat) : List UInt8 := (List.range j).map fun k => UInt8.ofNat (x.toNat / 256 ^ k)
theorem some4_succ (x : BitVec 32) (j : Nat) : some4 x j ++ [UInt8.ofNat (x.toNat / 256 ^ j)] = some4 x (j + 1) := by
  unfold some4
  rw [List.range_succ, List.map_append]
  rfl
theorem some4_length (x : BitVec 32) (j : Nat) : (some4 x j).length = j := by simp [some4]
theorem outs_succ (h : St) (i : Nat) (hi : i < 4) : outs h i ++ some4 ((row h).getD i 0) 4 = outs h (i + 1) := by
  unfold outs
  match i, hi with
  | 0, _ => rfl
  | 1, _ => rfl
  | 2, _ => rfl
  | 3, _ => rfl
theorem outs_all (h : St) : outs h 4 = out h := by simp [outs, out, row]
theorem outs_length (h : St) (i : Nat) (hi : i ≤ 4) : (outs h i).length ≤ 16 := by
  have hf : ∀ x : BitVec 32, (four x).length = 4 := fun x => by simp [four]
  match i, hi with
  | 0, _ => simp [outs]
  | 1, _ => simp [outs, row, hf]
  | 2, _ => simp [outs, row, hf]
  | 3, _ => simp [outs, row, hf]
  | 4, _ => simp [outs, row, hf]
end Go.Proofs.YtaagfmnpeimakaaDoor.Dig
namespace Go.Proofs.YtaagfmnpeimakaaDoor.Dg
open Go.RowKit
/-- The state's row, the constants', the bytes' own block. -/
structure Md (w : World) (Gh Gk g : Nat) (v : Value) (W : World) (h : Dig.St) (L : List UInt8) : Prop where
  bel : Below w.heap.size w W
  hrow : RowW w.heap.size W (.slice (some ⟨Gh, 0, none⟩) 4 4) (Dig.row h)
  krow : RowW w.heap.size W (.slice (some ⟨Gk, 0, none⟩) 64 64) Dig.sines
  brow : OwnsZ w.heap.size g W v L
  n1 : g ≠ Gh
  n2 : g ≠ Gk
  n3 : Gh ≠ Gk
theorem Md.below {w W W' : World} {Gh Gk g : Nat} {v : Value} {h : Dig.St} {L : List UInt8} (m : Md w Gh Gk g v W h L) (hb : Below W.heap.size W W') : Md w Gh Gk g v W' h L :=
  ⟨bel2 m.bel hb, m.hrow.below hb, m.krow.below hb, m.brow.below hb, m.n1, m.n2, m.n3⟩
theorem Md.hlt {w W : World} {Gh Gk g : Nat} {v : Value} {h : Dig.St} {L : List UInt8} (m : Md w Gh Gk g v W h L) : Gh < W.heap.size := (m.hrow.lt Gh rfl).2
theorem Md.klt {w W : World} {Gh Gk g : Nat} {v : Value} {h : Dig.St} {L : List UInt8} (m : Md w Gh Gk g v W h L) : Gk < W.heap.size := (m.krow.lt Gk rfl).2
theorem Md.push {w W w' : World} {Gh Gk g : Nat} {v v' : Value} {h : Dig.St} {L L' : List UInt8} (m : Md w Gh Gk g v W h L) (p : PushedZ w.heap.size g W v' L' w') : ∃ g', Md w Gh Gk g' v' w' h L' := by
  obtain ⟨g', ho, hw⟩ := p.row
  have hne : ∀ k, k < W.heap.size → k ≠ g → w'.heap[k]? = W.heap[k]? := fun k hk e => p.grown.block k hk (fun x => e (Option.some.inj x))
  refine ⟨g', ⟨m.bel.grown p.grown m.bel.size fun k hk => by cases hk; exact m.brow.base, m.hrow.same fun k hk => ?_, m.krow.same fun k hk => ?_, ho, fun e => ?_, fun e => ?_, m.n3⟩⟩
  · cases hk; exact hne Gh m.hlt m.n1.symm
  · cases hk; exact hne Gk m.klt m.n2.symm
  · rcases hw with e2 | e2
    · exact m.n1 (e2 ▸ e)
    · have := m.hlt; omega
  · rcases hw with e2 | e2
    · exact m.n2 (e2 ▸ e)
    · have := m.klt; omega
theorem Md.blocked {w W w' : World} {Gh Gk g : Nat} {v : Value} {h h' : Dig.St} {L : List UInt8} (m : Md w Gh Gk g v W h L) (hr : RowW w.heap.size w' (.slice (some ⟨Gh, 0, none⟩) 4 4) (Dig.row h')) (hg : W.grownBy w' (some Gh)) : Md w Gh Gk g v w' h' L :=
  ⟨m.bel.grown hg m.bel.size fun k hk => by cases hk; exact (m.hrow.lt Gh rfl).1, hr, m.krow.same fun k hk => by cases hk; exact hg.block Gk m.klt (fun e => m.n3 (Option.some.inj e).symm), m.brow.same (hg.block g m.brow.lt (fun e => m.n1 (Option.some.inj e))), m.n1, m.n2, m.n3⟩
theorem Md.reads {w W : World} {Gh Gk g : Nat} {v : Value} {h : Dig.St} {L : List UInt8} (m : Md w Gh Gk g v W h L) (i : Nat) (hi : i + 64 ≤ L.length) : ReadsB W g i ((L.drop i).take 64) := by
  intro j hj
  have hl : ((L.drop i).take 64).length = 64 := by rw [List.length_take, List.length_drop]; omega
  rw [hl] at hj
  rw [m.brow.cell (i + j) (by omega)]
  congr 4
  simp [List.getD, hj]
end Go.Proofs.YtaagfmnpeimakaaDoor.Dg
