/-
  Contracts of the program's own words: is there such a place, an event's row cut into texts, a digit, an action's number.
-/
import Derived.Test.YtokkecbnbojlnaaDoorU5
import Derived.Test.YtokkecbnbojlnaaDoorShelfS
import Derived.Test.YtokkecbnbojlnaaDoorU2
import Derived.Test.YtokkecbnbojlnaaDoorInts
import Derived.Deep.QuietTactic
import Derived.BigQuiet
import Derived.Deep.DeepCutAuto
namespace Go.Proofs.YtokkecbnbojlnaaDoor.U
open Go.RowKit
/-- The library's two variables that the program's step reads. -/
structure Tab (w : World) : Prop where
  space : ∀ c : Nat, c < 256 → w.cell? ⟨0, c, none⟩ = some (.int .u8 (if Lib.isSp (UInt8.ofNat c) then 1 else 0))
  most : ∃ m, w.cell? ⟨2, 0, none⟩ = some (.int .i64 m)
theorem Tab.below {w w' : World} (h : Tab w) (hb : Below w.heap.size w w') : Tab w' := by
  obtain ⟨m, hm⟩ := h.most
  exact ⟨fun c hc => (hb.cell (block_lt_of_cell (h.space c hc))).trans (h.space c hc), m, (hb.cell (block_lt_of_cell hm)).trans hm⟩
theorem isCell_any (s v : Int) (w : World) : Calls Tryd.prog 16 #[.int .i64 s, .int .i64 v] w fun e w' => e = .returned (.bool (decide (0 ≤ s ∧ s ≤ 9 ∧ 0 ≤ v ∧ v ≤ 15))) ∧ w' = w := by
  by_cases h1 : 0 ≤ s
  · by_cases h2 : s < 10
    · by_cases h3 : 0 ≤ v
      · by_cases h4 : v < 16
        · have e : decide (0 ≤ s ∧ s ≤ 9 ∧ 0 ≤ v ∧ v ≤ 15) = true := decide_eq_true (by omega)
          rw [e]
          clear e
          go_enter Tryd.func16, Tryd.ntmps16
          go_wp2_with fail
          go_ret
          exact ⟨rfl, rfl⟩
        · have e : decide (0 ≤ s ∧ s ≤ 9 ∧ 0 ≤ v ∧ v ≤ 15) = false := decide_eq_false (by omega)
          have q : decide (v < 16) = false := decide_eq_false h4
          rw [e]
          clear e
          go_enter Tryd.func16, Tryd.ntmps16
          go_wp2_with fail
          go_ret
          exact ⟨rfl, rfl⟩
      · have e : decide (0 ≤ s ∧ s ≤ 9 ∧ 0 ≤ v ∧ v ≤ 15) = false := decide_eq_false (by omega)
        have q : decide (0 ≤ v) = false := decide_eq_false h3
        rw [e]
        clear e
        go_enter Tryd.func16, Tryd.ntmps16
        go_wp2_with fail
        go_ret
        exact ⟨rfl, rfl⟩
    · have e : decide (0 ≤ s ∧ s ≤ 9 ∧ 0 ≤ v ∧ v ≤ 15) = false := decide_eq_false (by omega)
      have q : decide (s < 10) = false := decide_eq_false h2
      rw [e]
      clear e
      go_enter Tryd.func16, Tryd.ntmps16
      go_wp2_with fail
      go_ret
      exact ⟨rfl, rfl⟩
  · have e : decide (0 ≤ s ∧ s ≤ 9 ∧ 0 ≤ v ∧ v ≤ 15) = false := decide_eq_false (by omega)
    have q : decide (0 ≤ s) = false := decide_eq_false h1
    rw [e]
    clear e
    go_enter Tryd.func16, Tryd.ntmps16
    go_wp2_with fail
    go_ret
    exact ⟨rfl, rfl⟩
theorem words_any (v : Nat) (hv : v < 16) (w : World) (T : Tab w) : Calls Tryd.prog 18 #[.int .i64 (v : Int)] w (RowPost v w) := by
  have hP := fun W => prow_any v hv W
  have hF := fun W (t : Tab W) => Tryd.strings_Fields ⟨(Fsm.rowB v).toArray⟩ W (by rw [sz]; have := Fsm.rowB_short v hv; omega) (fun j b h => Fsm.rowB_ascii v hv b (List.mem_of_getElem? h)) t.space
  have hl := Fsm.row_length v hv
  simp only [Fsm.rowB_fields v hv, hl] at hF
  have HP := Lib.hid hP
  have HF := Lib.hid hF
  clear hP hF
  generalize (⟨(Fsm.rowB v).toArray⟩ : ByteArray) = R at *
  have HV := Lib.hid hv
  clear hv hl
  go_enter Tryd.func18, Tryd.ntmps18
  go_wp2_with (first | (go_at_call 26; refine (HP.out _).mono ?_; rintro e w1 ⟨rfl, rfl⟩) | (go_at_call 25; refine (HF.out _ T).mono ?_; rintro e w2 ⟨rfl, rfl⟩))
  go_ret
  exact row_laid v HV.out _ _ rfl
theorem digit_any (b : UInt8) (t : Nat) (ht : b.toNat = 48 + t) (h9 : t ≤ 9) (c : ByteArray) (hc : c = ⟨#[b]⟩) (w : World) : Calls Tryd.prog 22 #[.string c] w fun e w' => e = .returned (.int .i64 (t : Int)) ∧ w' = w := by
  have h1 : c.size = 1 := by subst hc; rfl
  have h0 : ∀ h : 0 < c.size, (c[0]'h).toNat = 48 + t := by subst hc; intro h; exact ht
  clear hc ht
  go_enter Tryd.func22, Tryd.ntmps22
  go_wp2_with fail
  go_ret
  refine ⟨?_, rfl⟩
  have := h0 (by omega)
  simp
  omega
theorem names_cells (w : World) (j : Nat) (h : j < Fsm.names.length) : (w.alloc (.cells (Fsm.names.map Value.string).toArray 9)).cell? ⟨w.heap.size, 0 + j, none⟩ = some (.string (Fsm.names.getD j ByteArray.empty)) := by
  have := new_cells w (Fsm.names.map Value.string) 9 j (.string (Fsm.names.getD j ByteArray.empty)) (by simp [List.getD, h])
  rwa [add_at] at this
theorem paction_any (x : ByteArray) (w : World) : Calls Tryd.prog 24 #[.string x] w fun e w' => e = .returned (.int .i64 (Lib.idxOfS Fsm.names x)) ∧ Below w.heap.size w w' := by
  have hB := (Below.refl w.heap.size w).alloc (Nat.le_refl _) (.cells (Fsm.names.map Value.string).toArray 9)
  have hI := Tryd.slices_Index_string w.heap.size 0 14 14 Fsm.names x _ (by decide) (by omega) (names_cells w)
  have HB := Lib.hid hB
  have HI := Lib.hid hI
  clear hB hI
  go_enter Tryd.func24, Tryd.ntmps24
  go_wp2_with (go_at_call 29; refine HI.out.mono ?_; rintro e w2 ⟨rfl, rfl⟩)
  go_ret
  exact ⟨rfl, HB.out⟩
end Go.Proofs.YtokkecbnbojlnaaDoor.U
