/-
  The walk of the law of digests about a block's end.
-/
import Derived.Test.YtnkcplaggiopmaaDoorDgA
import Derived.Test.YtnkcplaggiopmaaDoorBytes
import Derived.Test.YtnkcplaggiopmaaDoorBits
namespace Go.Proofs.YtnkcplaggiopmaaDoor.Dg
open Go.RowKit
/-- So many bytes of k are written. -/
def fill (k i : Nat) (y : UInt8) : List UInt8 := List.replicate i y ++ List.replicate (k - i) 0
theorem fill_none (k : Nat) (y : UInt8) : fill k 0 y = Go.Proofs.YtnkcplaggiopmaaDoor.zeros k := by simp [fill, Go.Proofs.YtnkcplaggiopmaaDoor.zeros]
theorem fill_length (k i : Nat) (y : UInt8) (h : i ≤ k) : (fill k i y).length = k := by simp [fill]; omega
theorem fill_set (k i : Nat) (y : UInt8) (h : i < k) : (fill k i y).set i y = fill k (i + 1) y := by
  unfold fill
  obtain ⟨m, hm⟩ : ∃ m, k - i = m + 1 := ⟨k - i - 1, by omega⟩
  rw [hm, show k - (i + 1) = m by omega, List.replicate_succ, List.set_append_right _ _ (by simp), List.length_replicate, Nat.sub_self, List.set_cons_zero, List.replicate_succ']
  simp
theorem holds_laid (W : World) (k : Nat) : Holds W.heap.size (W.alloc (.cells (Lib.byteCells (Go.Proofs.YtnkcplaggiopmaaDoor.zeros k)).toArray 5)) (Go.Proofs.YtnkcplaggiopmaaDoor.zeros k) := fun j hj => by
  have h := new_cells W (Lib.byteCells (Go.Proofs.YtnkcplaggiopmaaDoor.zeros k)) 5 j (.int .u8 (((Go.Proofs.YtnkcplaggiopmaaDoor.zeros k).getD j 0).toNat : Int)) (by simp [Lib.byteCells, hj])
  have e : (⟨W.heap.size, 0, none⟩ : Addr).add j = ⟨W.heap.size, j, none⟩ := by unfold Addr.add; split <;> simp_all
  rw [e] at h
  exact ⟨h, by simp⟩
set_option maxHeartbeats 1600000 in
theorem ends_walk (many c : Int) (k : Nat) (y : UInt8) (A S : ByteArray) (T : List UInt8) (w : World) (hk : bits .and .i64 many 255 = (k : Int)) (hk2 : k < 256) (hy : c % 256 = (y.toNat : Int)) (hz : A.size = 16)
    (s1 : Sums (fill k k y) [120] T) (TB : Hid (Tab w))
    (O : Hid (∀ W, Below w.heap.size w W → Calls Tryd.prog 8 #[.string ⟨(fill k k y).toArray⟩] W fun e w' => e = .returned (.string A) ∧ Below W.heap.size W w'))
    (M : Hid (∀ W, Calls Tryd.prog 9 #[.string ⟨(fill k k y).toArray⟩] W fun e w' => e = .returned (.string A) ∧ Below W.heap.size W w'))
    (P : Hid (∀ W, Below w.heap.size w W → Calls Tryd.prog 8 #[.string ⟨T.toArray⟩] W fun e w' => e = .returned (.string S) ∧ Below W.heap.size W w'))
    (R : Hid (∀ W, Calls Tryd.prog 9 #[.string ⟨T.toArray⟩] W fun e w' => e = .returned (.string S) ∧ Below W.heap.size W w')) :
    Calls Tryd.prog 6 #[.int .i64 many, .int .i64 c] w fun e w' => e = .returned (.bool true) ∧ Below w.heap.size w w' := by
  have q16 : ((A.size : Int) == 16) = true := by rw [beq_iff_eq]; omega
  have MK := fun W => make_bytes k (by omega) W
  go_enter Tryd.func6, Tryd.ntmps6
  go_wp2_with fail
  refine (awake_any _ TB).mono ?_
  rintro e w1 ⟨rfl, hb1⟩
  have HB := Lib.hid (bel2 hb1 ((Below.refl w1.heap.size w1).alloc (Nat.le_refl _) (.cells (Lib.byteCells (Go.Proofs.YtnkcplaggiopmaaDoor.zeros k)).toArray 5)))
  have HH := Lib.hid (holds_laid w1 k)
  have HZ : Hid (w.heap.size ≤ w1.heap.size) := Lib.hid hb1.size
  clear hb1
  rw [← fill_none k y] at HH
  go_wp2_with fail
  go_loopw [7] (fun s7 wr => ∃ i : Nat, i ≤ k ∧ s7 = .int .i64 (i : Int) ∧ Holds w1.heap.size wr (fill k i y) ∧ Below w.heap.size w wr) (fun s7 _ => k - (intOf s7).toNat)
  case atStart => exact ⟨0, by omega, rfl, HH.out, HB.out⟩
  case round =>
    clear HH HB
    obtain ⟨i, hi, rfl, hh, hb⟩ := hrel
    have HH := Lib.hid hh
    have HB := Lib.hid hb
    clear hh hb
    by_cases hlt : i < k
    · have ix := indexB w1.heap.size 0 k k i hlt
      rw [Nat.zero_add] at ix
      obtain ⟨c0, fz⟩ := HH.out i (by rw [fill_length k i y hi]; exact hlt)
      have hs := HH.out.set i (by rw [fill_length k i y hi]; exact hlt) y
      rw [fill_set k i y hlt] at hs
      have HS := Lib.hid (And.intro hs (HB.out.setCell (p := ⟨w1.heap.size, i, none⟩) HZ.out (.int .u8 (y.toNat : Int))))
      clear hs
      go_wp2_with fail
      go_roundw
      case rel => exact ⟨i + 1, by omega, by go_num, HS.out.1, HS.out.2⟩
      case measure => simp [intOf]; omega
    · obtain rfl : i = k := by omega
      have hcv := HH.out.back i
      rw [fill_length i i y (Nat.le_refl _)] at hcv
      generalize fill i i y = L at *
      clear HH MK
      go_wp2_with (first | (go_at_call 8; with_reducible refine (O.out _ HB.out).mono ?_; rintro e w2 ⟨rfl, hb2⟩; have HB := Lib.hid (bel2 HB.out hb2); clear hb2) | (go_at_call 8; with_reducible refine (P.out _ HB.out).mono ?_; rintro e w2 ⟨rfl, hb2⟩; have HB := Lib.hid (bel2 HB.out hb2); clear hb2) | (go_at_call 9; with_reducible refine (M.out _).mono ?_; rintro e w2 ⟨rfl, hb2⟩; have HB := Lib.hid (bel2 HB.out hb2); clear hb2) | (go_at_call 9; with_reducible refine (R.out _).mono ?_; rintro e w2 ⟨rfl, hb2⟩; have HB := Lib.hid (bel2 HB.out hb2); clear hb2) | (go_at_call 14; refine (num_any _ _).mono ?_; rintro e w9 ⟨rfl, rfl⟩))
      go_ret
      exact ⟨rfl, HB.out⟩
theorem walk_ends (many c : Int) (w : World) (_ : (Lit.int .i64 many).wf = true) (_ : (Lit.int .i64 c).wf = true) (T : Tab w) :
    Calls Tryd.prog 6 #[.int .i64 many, .int .i64 c] w fun e w' => e = .returned (.bool true) ∧ Below w.heap.size w w' := by
  obtain ⟨k, hk, hk2⟩ := low_255 many
  obtain ⟨y, hy⟩ := byte_of c
  have hl := fill_length k k y (Nat.le_refl _)
  exact ends_walk many c k y ⟨(Dig.md5 (fill k k y)).toArray⟩ ⟨(Dig.md5 (fill k k y ++ [120])).toArray⟩ (fill k k y ++ [120]) w hk hk2 hy.symm (by rw [sz, Dig.md5_length]) (sums _ _ (by rw [hl]; simp; omega)) (Lib.hid T) (Lib.hid fun W hb => of_any _ W (by omega) (Lib.hid (T.below hb))) (Lib.hid fun W => md5_any _ W (by omega)) (Lib.hid fun W hb => of_any _ W (by rw [List.length_append, hl]; simp; omega) (Lib.hid (T.below hb))) (Lib.hid fun W => md5_any _ W (by rw [List.length_append, hl]; simp; omega))
end Go.Proofs.YtnkcplaggiopmaaDoor.Dg
