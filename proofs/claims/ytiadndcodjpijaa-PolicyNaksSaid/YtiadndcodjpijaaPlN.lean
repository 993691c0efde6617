/-
  Numbers of a few bytes: as a machine reckons them; so many new bytes.
-/
import Derived.Test.YtiadndcodjpijaaPl1
import Derived.Test.YtiadndcodjpijaaBytes
namespace Go.Proofs.Ytiadndcodjpijaa.Pl
open Go.RowKit
theorem zeros_set (q : Nat) (y : UInt8) (r : List UInt8) : (zeros (q + 1) ++ r).set q y = zeros q ++ y :: r := by
  unfold zeros
  rw [List.replicate_succ', List.append_assoc, List.set_append_right _ _ (by simp)]
  simp
theorem holds_laid (W : World) (k : Nat) : Holds W.heap.size (W.alloc (.cells (Lib.byteCells (zeros k)).toArray 5)) (zeros k) := fun j hj => by
  have h := new_cells W (Lib.byteCells (zeros k)) 5 j (.int .u8 (((zeros k).getD j 0).toNat : Int)) (by simp [Lib.byteCells, hj])
  have e : (⟨W.heap.size, 0, none⟩ : Addr).add j = ⟨W.heap.size, j, none⟩ := by unfold Addr.add; split <;> simp_all
  rw [e] at h
  exact ⟨h, by simp⟩
theorem indexB0 (b n cap k : Nat) (hk : k < n) (W : World) : (Instr.indexAt 43 (.slice (some ⟨b, 0, none⟩) n cap) (.int .i64 (k : Int))).run Try.prog W = .ok (.pointer (some ⟨b, k, none⟩)) W := by
  have hs : (sizeOf (Try.prog.elem 43)).run Try.prog W = .ok 1 W := Try.sizeOf5 W
  have e := run_indexAt_slice (P := Try.prog) W 43 ⟨b, 0, none⟩ n cap .i64 (k : Int) Try.underlying43
  have e0 : ∀ j, (⟨b, 0, none⟩ : Addr).add j = ⟨b, j, none⟩ := fun j => by unfold Addr.add; split <;> simp_all
  rw [if_pos (by omega), hs] at e
  simp only [Result.andThen, Int.toNat_natCast] at e
  rw [e, Nat.mul_one, e0]
/-- A further byte of a number, as a machine reckons it. -/
def more (x b : Int) : Int := bits .or .i64 (wrap64 (x * 256)) (wrap64 b)
abbrev nm (l : List UInt8) : Int := Pol.numI more l
theorem nm_snoc (l : List UInt8) (c : UInt8) : nm (l ++ [c]) = more (nm l) (c.toNat : Int) := by simp [nm, Pol.numI]
end Go.Proofs.Ytiadndcodjpijaa.Pl
