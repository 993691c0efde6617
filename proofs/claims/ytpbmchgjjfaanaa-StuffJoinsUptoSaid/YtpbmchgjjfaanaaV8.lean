/-
  Contracts of the laws' own helpers: a number, two lists of texts held against each other.
-/
import Derived.Test.YtpbmchgjjfaanaaV7
namespace Go.Proofs.Ytpbmchgjjfaanaa
open Go.RowKit
theorem num_any (n : Int) (w : World) : Calls Try.prog 15 #[.int .i64 n] w fun e w' => e = .returned (.int .i64 n) ∧ w = w' := by
  go_enter Try.func15, Try.ntmps15
  go_wp2
  go_ret
  exact ⟨rfl, rfl⟩
/-- 'v' is a slice that reads as the texts 'ls'. -/
def Reads (W : World) (v : Value) (ls : List (List UInt8)) : Prop := ∃ (p : Option Addr) (cap : Nat) (A : Nat → Addr), v = .slice p ls.length cap ∧
  (∀ k, k < ls.length → ∀ W' : World, (Instr.indexAt 27 v (.int .i64 (k : Int))).run Try.prog W' = .ok (.pointer (some (A k))) W') ∧
  ∀ k (h : k < ls.length), W.cell? (A k) = some (.string ⟨ls[k].toArray⟩)
theorem index_at (x : Addr) (n cap k : Nat) (hk : k < n) (W : World) : (Instr.indexAt 27 (.slice (some x) n cap) (.int .i64 (k : Int))).run Try.prog W = .ok (.pointer (some (x.add k))) W := by
  have hs : (sizeOf (Try.prog.elem 27)).run Try.prog W = .ok 1 W := Try.sizeOf9 W
  have e := run_indexAt_slice (P := Try.prog) W 27 x n cap .i64 (k : Int) Try.underlying27
  rw [if_pos (by omega), hs] at e
  simpa [Result.andThen] using e
theorem reads_of_cells (W : World) (x : Addr) (cap : Nat) (ls : List (List UInt8)) (h : ∀ j u, (txts ls)[j]? = some u → W.cell? (x.add j) = some u) : Reads W (.slice (some x) ls.length cap) ls :=
  ⟨_, cap, fun k => x.add k, rfl, fun k hk W' => index_at x ls.length cap k hk W', fun k hk => h k _ (by simp [txts, hk])⟩
theorem OwnsT.reads {w W : World} {v : Value} {ls : List (List UInt8)} (h : OwnsT w W v ls) : Reads W v ls := by
  have hc := fun g hg => h.1.cells (g := g) hg
  rcases h.1.2 with ⟨rfl, h0⟩ | ⟨g, cap, cur, rfl, _⟩
  · obtain rfl : ls = [] := List.length_eq_zero_iff.1 h0
    exact ⟨none, 0, fun _ => ⟨0, 0, none⟩, rfl, fun k hk => absurd hk (by simp), fun k hk => absurd hk (by simp)⟩
  · exact reads_of_cells W _ cap ls (hc g rfl)
theorem Reads.below {W W' : World} {v : Value} {ls : List (List UInt8)} (h : Reads W v ls) (hb : Below W.heap.size W W') : Reads W' v ls := by
  obtain ⟨p, cap, A, e, hi, hc⟩ := h
  exact ⟨p, cap, A, e, hi, fun k hk => (hb.cell (block_lt_of_cell (hc k hk))).trans (hc k hk)⟩
theorem take_succ_ne {ls : List (List UInt8)} (k : Nat) (h : k < ls.length) : ls.take (k + 1) = ls.take k ++ [ls[k]] := by
  rw [List.take_succ_eq_append_getElem h]
set_option maxHeartbeats 400000 in
theorem same_any (va vb : Value) (la lb : List (List UInt8)) (W : World) (ha : Reads W va la) (hb : Reads W vb lb) (hla : la.length ≤ 1073741824) (hlb : lb.length ≤ 1073741824) :
    Calls Try.prog 16 #[va, vb] W fun e w' => e = .returned (.bool (decide (la = lb))) ∧ Below W.heap.size W w' := by
  obtain ⟨p, cap, A, rfl, hi, hc⟩ := ha
  obtain ⟨q, cap2, A2, rfl, hi2, hc2⟩ := hb
  have HI := Lib.hid hi
  have HC := Lib.hid hc
  have HI2 := Lib.hid hi2
  have HC2 := Lib.hid hc2
  clear hi hc hi2 hc2
  by_cases hl : la.length = lb.length
  · have q1 : ((la.length : Int) != (lb.length : Int)) = false := by rw [bne_eq_false_iff_eq]; omega
    have HL := Lib.hid hl
    clear hl
    go_enter Try.func16, Try.ntmps16
    go_wp2_with fail
    go_loopw [5] (fun i wr => ∃ k : Nat, k ≤ la.length ∧ i = .int .i64 k ∧ la.take k = lb.take k ∧ Below W.heap.size W wr) (fun i _ => la.length - (intOf i).toNat)
    case atStart => exact ⟨0, by omega, rfl, rfl, Below.refl _ _⟩
    case round =>
      obtain ⟨k, hk, rfl, ht, hb⟩ := hrel
      have HT := Lib.hid ht
      have HB := Lib.hid hb
      clear ht hb
      by_cases hlt : k < la.length
      · have hlt2 : k < lb.length := by have := HL.out; omega
        have hi := HI.out k hlt
        have hi2 := HI2.out k hlt2
        have hc := HC.out k hlt
        have hc2 := HC2.out k hlt2
        rw [← HB.out.cell (block_lt_of_cell hc)] at hc
        rw [← HB.out.cell (block_lt_of_cell hc2)] at hc2
        have HS := Lib.hid (take_succ_ne k hlt)
        have HS2 := Lib.hid (take_succ_ne k hlt2)
        have HX : Hid (la = lb → la[k] = lb[k]) := Lib.hid (by rintro rfl; rfl)
        generalize la[k] = x at *
        generalize lb[k] = y at *
        generalize A k = Ak at *
        generalize A2 k = A2k at *
        by_cases hxy : x = y
        · subst hxy
          have hqq : (x == x) = true := by simp
          go_wp2_with fail
          go_quiet (fail)
          obtain ⟨wq, hwq⟩ : ∃ wq, wq = wr.drewN nq := ⟨_, rfl⟩
          have HB1 := Lib.hid (HB.out.trans (hwq ▸ below_drewN (Below.refl _ _) nq))
          rw [← hwq]
          clear hwq hc hc2
          go_wp2_with fail
          go_roundw
          case rel => exact ⟨k + 1, by omega, by go_num, by rw [HS.out, HS2.out, HT.out], HB1.out⟩
          case measure => simp [intOf]; omega
        · have hqq : (x == y) = false := by simpa using hxy
          have HF : Hid (decide (la = lb) = false) := Lib.hid (decide_eq_false (fun e => hxy (HX.out e)))
          clear hxy
          go_wp2_with fail
          go_quiet (fail)
          obtain ⟨wq, hwq⟩ : ∃ wq, wq = wr.drewN nq := ⟨_, rfl⟩
          have HB1 := Lib.hid (HB.out.trans (hwq ▸ below_drewN (Below.refl _ _) nq))
          rw [← hwq]
          clear hwq hc hc2
          go_wp2_with fail
          go_ret
          exact ⟨ret_bool HF.out.symm, HB1.out⟩
      · obtain rfl : k = la.length := by omega
        have HF : Hid (decide (la = lb) = true) := by
          have h := HT.out
          rw [List.take_length, HL.out, List.take_length] at h
          exact Lib.hid (decide_eq_true h)
        go_wp2_with fail
        go_ret
        exact ⟨ret_bool HF.out.symm, HB.out⟩
  · have q1 : ((la.length : Int) != (lb.length : Int)) = true := by rw [bne_iff_ne]; omega
    have HF : Hid (decide (la = lb) = false) := Lib.hid (decide_eq_false (fun e => hl (by rw [e])))
    clear hl
    go_enter Try.func16, Try.ntmps16
    go_wp2_with fail
    go_ret
    exact ⟨ret_bool HF.out.symm, Below.refl _ _⟩
end Go.Proofs.Ytpbmchgjjfaanaa
