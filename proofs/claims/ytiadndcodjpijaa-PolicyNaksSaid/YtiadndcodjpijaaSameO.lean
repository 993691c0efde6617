/-
  Contracts of the laws' own helpers over options: held against each other, copied, lent with marked room, kept.
-/
import Derived.Test.YtiadndcodjpijaaEqO
import Derived.Deep.QuietTactic
import Derived.BigQuiet
import Derived.Deep.WholeRow
namespace Go.Proofs.Ytiadndcodjpijaa
open Go.RowKit
theorem takeO_succ {ls : List Opt.Op} (k : Nat) (h : k < ls.length) : ls.take (k + 1) = ls.take k ++ [ls[k]] := List.take_succ_eq_append_getElem h
set_option maxHeartbeats 400000 in
theorem sameO_any (va vb : Value) (la lb : List Opt.Op) (W : World) (ha : ReadsO W va la) (hb : ReadsO W vb lb) (hla : la.length ≤ 4611686018427387904) (hlb : lb.length ≤ 4611686018427387904) :
    Calls Try.prog 15 #[va, vb] W fun e w' => e = .returned (.bool (decide (la = lb))) ∧ Below W.heap.size W w' := by
  obtain ⟨p, cap, b, off, rfl, _, _, hi, hc⟩ := ha.at
  obtain ⟨q, cap2, b2, off2, rfl, _, _, hi2, hc2⟩ := hb.at
  have HI := Lib.hid hi
  have HC := Lib.hid hc
  have HI2 := Lib.hid hi2
  have HC2 := Lib.hid hc2
  clear hi hc hi2 hc2 ha hb
  by_cases hl : la.length = lb.length
  · have q1 : ((la.length : Int) != (lb.length : Int)) = false := by rw [bne_eq_false_iff_eq]; omega
    have HL := Lib.hid hl
    clear hl
    go_enter Try.func15, Try.ntmps15
    go_wp2_with fail
    go_loopw [5] (fun i wr => ∃ k : Nat, k ≤ la.length ∧ i = .int .i64 k ∧ la.take k = lb.take k ∧ Below W.heap.size W wr) (fun i _ => la.length - (intOf i).toNat)
    case atStart => exact ⟨0, by omega, rfl, rfl, Below.refl _ _⟩
    case round =>
      obtain ⟨k, hk, rfl, ht, hb⟩ := hrel
      have HT := Lib.hid ht
      have HB := Lib.hid hb
      clear ht hb
      by_cases hlt : k < la.length
      · have hlt2 : k < lb.length := by have := HL.out; omega
        have hi := HI.out k hlt
        have hi2 := HI2.out k hlt2
        obtain ⟨c0, c1⟩ := HC.out k hlt
        obtain ⟨d0, d1⟩ := HC2.out k hlt2
        rw [← HB.out.cell (block_lt_of_cell c0)] at c0
        rw [← HB.out.cell (block_lt_of_cell c1)] at c1
        rw [← HB.out.cell (block_lt_of_cell d0)] at d0
        rw [← HB.out.cell (block_lt_of_cell d1)] at d1
        have HS := Lib.hid (takeO_succ k hlt)
        have HS2 := Lib.hid (takeO_succ k hlt2)
        have HX : Hid (la = lb → la[k] = lb[k]) := Lib.hid (by rintro rfl; rfl)
        generalize la[k] = x at *
        generalize lb[k] = y at *
        obtain ⟨o8, ho8⟩ : ∃ o8, o8 = off + 2 * k := ⟨_, rfl⟩
        obtain ⟨o9, ho9⟩ : ∃ o9, o9 = off2 + 2 * k := ⟨_, rfl⟩
        rw [← ho8] at hi c0 c1
        rw [← ho9] at hi2 d0 d1
        clear ho8 ho9
        obtain ⟨z, d⟩ := x
        obtain ⟨z2, e⟩ := y
        dsimp only at c0 c1 d0 d1
        have hgu := guardO
        by_cases hxy : (z, d) = (z2, e)
        · obtain ⟨rfl, rfl⟩ := Prod.mk.inj hxy
          obtain ⟨k1, k2, _⟩ := eqO_yes z d
          go_wp2_with fail
          go_quiet (fail)
          obtain ⟨wq, hwq⟩ : ∃ wq, wq = wr.drewN nq := ⟨_, rfl⟩
          have HB1 := Lib.hid (HB.out.trans (hwq ▸ below_drewN (Below.refl _ _) nq))
          rw [← hwq]
          clear hwq c0 c1 d0 d1 k1 k2
          go_wp2_with fail
          go_roundw
          case rel => exact ⟨k + 1, by omega, by go_num, by rw [HS.out, HS2.out, HT.out], HB1.out⟩
          case measure => simp [intOf]; omega
        · obtain ⟨k1, k2, _⟩ := eqO_no z z2 d e hxy
          have HF : Hid (decide (la = lb) = false) := Lib.hid (decide_eq_false (fun e => hxy (HX.out e)))
          clear hxy
          go_wp2_with fail
          go_quiet (fail)
          obtain ⟨wq, hwq⟩ : ∃ wq, wq = wr.drewN nq := ⟨_, rfl⟩
          have HB1 := Lib.hid (HB.out.trans (hwq ▸ below_drewN (Below.refl _ _) nq))
          rw [← hwq]
          clear hwq c0 c1 d0 d1 k1 k2
          go_wp2_with fail
          go_ret
          exact ⟨ret_bool HF.out.symm, HB1.out⟩
      · obtain rfl : k = la.length := by omega
        have HF : Hid (decide (la = lb) = true) := by
          have h := HT.out
          rw [List.take_length, HL.out, List.take_length] at h
          exact Lib.hid (decide_eq_true h)
        go_wp2_with fail
        go_ret
        exact ⟨ret_bool HF.out.symm, HB.out⟩
  · have q1 : ((la.length : Int) != (lb.length : Int)) = true := by rw [bne_iff_ne]; omega
    have HF : Hid (decide (la = lb) = false) := Lib.hid (decide_eq_false (fun e => hl (by rw [e])))
    clear hl
    go_enter Try.func15, Try.ntmps15
    go_wp2_with fail
    go_ret
    exact ⟨ret_bool HF.out.symm, Below.refl _ _⟩
end Go.Proofs.Ytiadndcodjpijaa
