/-
  Contract of the document's own words: a word's number.
-/
import Derived.Test.YtokkecbnbojlnaaDoorUMath
import Derived.Test.YtokkecbnbojlnaaDoorReads
import Derived.Deep.QuietTactic
import Derived.BigQuiet
import Derived.Deep.WholeRow
namespace Go.Proofs.YtokkecbnbojlnaaDoor.U
open Go.RowKit
open Go.Proofs.YtokkecbnbojlnaaDoor
theorem words_reads (w : World) : Reads (w.alloc (.cells (txts Fsm.words).toArray 9)) (.slice (some ⟨w.heap.size, 0, none⟩) 13 13) Fsm.words := by
  refine reads_of_cells _ ⟨w.heap.size, 0, none⟩ 13 Fsm.words fun j u hj => ?_
  exact new_cells w _ _ j u hj
set_option maxHeartbeats 400000 in
theorem action_any (l : List UInt8) (w : World) : Calls Tryd.prog 20 #[.string ⟨l.toArray⟩] w fun e w' => e = .returned (.int .i64 (Fsm.act l)) ∧ Below w.heap.size w w' := by
  obtain ⟨p, cap, A, e0, hi, hc⟩ := words_reads w
  have e1 : p = some ⟨w.heap.size, 0, none⟩ ∧ cap = 13 := by
    simp only [Value.slice.injEq] at e0
    exact ⟨e0.1.symm, e0.2.2.symm⟩
  obtain ⟨rfl, rfl⟩ := e1
  have HI := Lib.hid hi
  have HC := Lib.hid hc
  have B0 := Lib.hid ((Below.refl w.heap.size w).alloc (Nat.le_refl _) (.cells (txts Fsm.words).toArray 9))
  have HW : Hid (∀ l (k : Nat) (h : k < Fsm.words.length), Fsm.words[k] = l → (∀ j (h : j < Fsm.words.length), j < k → Fsm.words[j] ≠ l) → Fsm.act l = (k : Int) + 1) := Lib.hid Fsm.act_hit
  have HM : Hid (∀ l, (∀ j (h : j < Fsm.words.length), Fsm.words[j] ≠ l) → Fsm.act l = 0) := Lib.hid Fsm.act_miss
  have HN : Hid (Fsm.words.length = 13) := Lib.hid rfl
  clear hi hc e0
  go_enter Tryd.func20, Tryd.ntmps20
  go_wp2_with fail
  go_loopw [4] (fun i wr => ∃ k : Nat, k ≤ 13 ∧ i = .int .i64 k ∧ Hid (∀ j (h : j < Fsm.words.length), j < k → Fsm.words[j] ≠ l) ∧ Below w.heap.size w wr ∧ Hid (∀ k (h : k < Fsm.words.length), wr.cell? (A k) = some (.string ⟨Fsm.words[k].toArray⟩))) (fun i _ => 13 - (intOf i).toNat)
  case atStart => exact ⟨0, by omega, rfl, Lib.hid (fun j _ h => absurd h (by omega)), B0.out, HC⟩
  case round =>
    obtain ⟨k, hk, rfl, HT, hb, HX⟩ := hrel
    have HB := Lib.hid hb
    clear hb
    by_cases hlt : k < 13
    · have hlt2 : k < Fsm.words.length := hlt
      have hi := HI.out k hlt2
      have c0 := HX.out k hlt2
      have H1 : Hid (Fsm.words[k] = l → Fsm.act l = (k : Int) + 1) := Lib.hid fun e => HW.out l k hlt2 e HT.out
      have H2 : Hid (Fsm.words[k] ≠ l → ∀ j (h : j < Fsm.words.length), j < k + 1 → Fsm.words[j] ≠ l) := Lib.hid fun e j h hj => by
        by_cases q : j = k
        · subst q; exact e
        · exact HT.out j h (by omega)
      generalize Fsm.words[k] = x at *
      generalize A k = Ak at *
      clear hlt2
      by_cases hxy : x = l
      · subst hxy
        have k1 : (x == x) = true := by simp
        have H3 := Lib.hid (H1.out rfl)
        clear H1 H2
        go_wp2_with fail
        go_ret
        exact ⟨ret_int H3.out.symm, HB.out⟩
      · have k1 : (x == l) = false := by simpa using hxy
        have H3 := Lib.hid (H2.out hxy)
        clear H1 H2 hxy
        go_wp2_with fail
        go_roundw
        case rel => exact ⟨k + 1, by omega, by go_num, H3, HB.out, HX⟩
        case measure => simp [intOf]; omega
    · obtain rfl : k = 13 := by omega
      have HF := Lib.hid (HM.out l fun j h => HT.out j h h)
      go_wp2_with fail
      go_ret
      exact ⟨ret_int HF.out.symm, HB.out⟩
end Go.Proofs.YtokkecbnbojlnaaDoor.U
