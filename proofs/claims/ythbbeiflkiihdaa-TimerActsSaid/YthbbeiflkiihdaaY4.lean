/-
  Contracts of the pile: made, the first one, is it due, where an id stands, pushed, popped.
-/
import Derived.Test.YthbbeiflkiihdaaY2
import Derived.Deep.RegionLaw
import Derived.Deep.AppendLies
import Derived.Shelf.RegionOpenPlain
namespace Go.Proofs.Ythbbeiflkiihdaa.Y
open Go.RowKit
theorem new_any (w : World) : Calls Try.prog 4 #[] w fun e w' => e = .returned (.pointer (some ⟨w.heap.size, 0, none⟩)) ∧ Pl w.heap.size (.slice none 0 0) w' [] ∧ Below w.heap.size w w' ∧ w.heap.size < w'.heap.size := by
  have X := Lib.hid (Blk.new w [.slice none 0 0] 52)
  have B0 := Lib.hid ((Below.refl w.heap.size w).alloc (Nat.le_refl _) (.cells #[.slice none 0 0] 52))
  go_enter Try.func4, Try.ntmps4
  go_wp2_with fail
  go_ret
  exact ⟨rfl, ⟨X.out, RowT.empty _ _⟩, B0.out, X.out.lt⟩
set_option maxHeartbeats 800000 in
theorem first_none (B : Nat) (v : Value) (w : World) (h : Pl B v w []) : Calls Try.prog 24 #[.pointer (some ⟨B, 0, none⟩)] w fun e w' => e = .returned (.tuple #[.agg #[.int .i64 0, .int .i64 0], .bool false]) ∧ Below w.heap.size w w' := by
  obtain ⟨p, cap, rfl⟩ := h.form
  have B0 := (Below.refl w.heap.size w).alloc (Nat.le_refl _) (.cells #[.int .i64 0, .int .i64 0] 57)
  have X := Lib.hid (Blk.new w [.int .i64 0, .int .i64 0] 57)
  have H2 := h.below B0
  have c0 := H2.box.cell 0 _ rfl
  have HL := Lib.hid fun W => len_any p 0 cap W
  have m0 := X.out.cell 0 _ rfl
  have m1 := X.out.cell 1 _ rfl
  have HB := Lib.hid B0
  have g0 := h.lt
  have c1 := h.box.cell 0 _ rfl
  simp only [List.length_nil] at c0 c1
  clear B0 h H2
  go_enter Try.func24, Try.ntmps24
  go_wp2_with (go_at_call 18; with_reducible refine (HL.out _).mono ?_; rintro e w2 ⟨rfl, rfl⟩)
  refine bodyPost_ret (v := .tuple #[.agg #[.int .i64 0, .int .i64 0], .bool false]) (by simp [results, Try.results24, go_sem, m0, m1]) rfl ⟨rfl, ?_⟩
  exact HB.out
set_option maxHeartbeats 1600000 in
theorem first_some (B : Nat) (v : Value) (A : List Tim.T) (w : World) (h : Pl B v w A) (h0 : 0 < A.length) : Calls Try.prog 24 #[.pointer (some ⟨B, 0, none⟩)] w fun e w' => e = .returned (.tuple #[.agg #[.int .i64 (Tim.g A 0).1, .int .i64 (Tim.g A 0).2], .bool true]) ∧ Below w.heap.size w w' := by
  obtain ⟨G, cap, rfl, _, _, hG⟩ := h.arr.full h0
  have X := Lib.hid (Blk.new w [.int .i64 0, .int .i64 0] 57)
  have HL := Lib.hid fun W => len_any (some ⟨G, 0, none⟩) A.length cap W
  have m0 := X.out.cell 0 _ rfl
  have m1 := X.out.cell 1 _ rfl
  have g0 := h.lt
  have c1 := h.box.cell 0 _ rfl
  obtain ⟨k0, k1⟩ := h.arr.cells 0 h0
  have hi : ∀ W : World, (Instr.indexAt 48 (.slice (some ⟨G, 0, none⟩) A.length cap) (.int .i64 0)).run Try.prog W = .ok (.pointer (some ⟨G, 0, none⟩)) W := indexT G A.length cap 0 h0
  have q0 : ((A.length : Int) == 0) = false := by rw [beq_eq_false_iff_ne]; omega
  generalize Tim.g A 0 = x at *
  generalize A.length = n at *
  clear h
  go_enter Try.func24, Try.ntmps24
  go_wp2_with (go_at_call 18; with_reducible refine (HL.out _).mono ?_; rintro e w2 ⟨rfl, rfl⟩)
  have X2 := Blk.new w [.int .i64 x.1, .int .i64 x.2] 57
  have n0 := X2.cell 0 _ rfl
  have n1 := X2.cell 1 _ rfl
  refine bodyPost_ret (v := .tuple #[.agg #[.int .i64 x.1, .int .i64 x.2], .bool true]) (by simp [results, Try.results24, go_sem, n0, n1]) rfl ⟨rfl, ?_⟩
  exact (Below.refl w.heap.size w).alloc (Nat.le_refl _) _
set_option maxHeartbeats 400000 in
theorem find_one (K : Nat) (id : Int) (x : Tim.T) (w : World) (c0 : w.cell? ⟨K, 0, none⟩ = some (.int .i64 id)) :
    Calls Try.prog 26 #[.agg #[.int .i64 x.1, .int .i64 x.2], .pointer (some ⟨K, 0, none⟩)] w fun e w' => e = .returned (.bool (x.1 == id)) ∧ Below w.heap.size w w' := by
  have hK := block_lt_of_cell c0
  have HB := Lib.hid ((Below.refl w.heap.size w).alloc (Nat.le_refl _) (.cells #[.int .i64 x.1, .int .i64 x.2] 57))
  simp only at hK
  go_enter Try.func26, Try.ntmps26
  go_wp2_with fail
  go_ret
  exact ⟨rfl, HB.out⟩
set_option maxHeartbeats 1600000 in
theorem index_walk (K : Nat) (id : Int) (v : Value) (A : List Tim.T) (b : Nat) (w : World) (hr : RowT b w v A) (hl : A.length ≤ 1000000) (c0 : w.cell? ⟨K, 0, none⟩ = some (.int .i64 id)) :
    Calls Try.prog 25 #[v, .func (.func 26) #[] #[.pointer (some ⟨K, 0, none⟩)]] w fun e w' => ∃ r : Int, e = .returned (.int .i64 r) ∧ (r = -1 ∧ Tim.has A id = false ∨ ∃ k : Nat, r = k ∧ k < A.length ∧ (Tim.g A k).1 = id) ∧ Below w.heap.size w w' := by
  have eg : ∀ args w, (callFunc 26 args).run Try.prog w = .ok (.enter 26 args) w := fun _ _ => rfl
  obtain ⟨p, cap, rfl⟩ := hr.form
  have HR := Lib.hid hr
  have HC := Lib.hid c0
  clear hr c0
  go_enter Try.func25, Try.ntmps25
  go_wp2_with fail
  go_loopw [5, 8] (fun _ s8 wr => ∃ kk : Nat, kk ≤ A.length ∧ s8 = .int .i64 kk ∧ Below w.heap.size w wr ∧ Hid (∀ j, j < kk → (Tim.g A j).1 ≠ id)) (fun _ i _ => A.length - (intOf i).toNat)
  case atStart => exact ⟨0, Nat.zero_le _, rfl, Below.refl _ w, Lib.hid fun j hj => absurd hj (Nat.not_lt_zero _)⟩
  case round =>
    obtain ⟨kk, hkk, rfl, hb, HA⟩ := hrel
    have HB := Lib.hid hb
    clear hb
    by_cases hlt : kk < A.length
    · obtain ⟨G, cap', hv, _⟩ := HR.out.full (by omega)
      simp only [Value.slice.injEq] at hv
      obtain ⟨rfl, _, rfl⟩ := hv
      have hi := indexT G A.length cap kk hlt
      have hR2 := HR.out.below HB.out
      obtain ⟨k0, k1⟩ := hR2.cells kk hlt
      have hcall := find_one K id (Tim.g A kk) wr (cell_below HC.out HB.out)
      have HT : Hid ((Tim.g A kk).1 = id → ∃ k : Nat, (kk : Int) = k ∧ k < A.length ∧ (Tim.g A k).1 = id) := Lib.hid fun e => ⟨kk, rfl, hlt, e⟩
      have HF : Hid ((Tim.g A kk).1 ≠ id → ∀ j, j < kk + 1 → (Tim.g A j).1 ≠ id) := Lib.hid fun e j hj => by
        by_cases q : j = kk
        · subst q; exact e
        · exact HA.out j (by omega)
      generalize Tim.g A kk = o at *
      obtain ⟨z, d⟩ := o
      obtain ⟨o8, ho8⟩ : ∃ o8, o8 = 2 * kk := ⟨_, rfl⟩
      rw [← ho8] at hi k0 k1
      clear ho8 hR2
      by_cases hq : z = id
      · have e1 : (z == id) = true := by simpa using hq
        simp only [e1] at hcall
        have HT2 := Lib.hid (HT.out hq)
        clear hq HT HF e1
        have hcall := Lib.hid hcall
        go_wp2_with (go_at_fn 26; refine hcall.out.mono ?_; rintro e w' ⟨rfl, hb'⟩)
        go_ret
        exact ⟨_, rfl, .inr HT2.out, bel2 HB.out hb'⟩
      · have e1 : (z == id) = false := by simpa using hq
        simp only [e1] at hcall
        have HF2 := Lib.hid (HF.out hq)
        clear hq HT HF e1
        have hcall := Lib.hid hcall
        go_wp2_with (go_at_fn 26; refine hcall.out.mono ?_; rintro e w' ⟨rfl, hb'⟩)
        have HB2 := Lib.hid (bel2 HB.out hb')
        clear hb'
        go_roundw
        case rel => exact ⟨kk + 1, by omega, by go_num, HB2.out, HF2⟩
        case measure => simp [intOf]; omega
    · obtain rfl : kk = A.length := by omega
      have HM : Hid (Tim.has A id = false) := Lib.hid ((Tim.has_false A id).2 fun x hx => by
        obtain ⟨k, hk, rfl⟩ := List.getElem_of_mem hx
        rw [← Tim.g_eq A k hk]
        exact HA.out k hk)
      go_wp2_with fail
      go_ret
      exact ⟨-1, rfl, .inl ⟨rfl, HM.out⟩, HB.out⟩
end Go.Proofs.Ythbbeiflkiihdaa.Y
