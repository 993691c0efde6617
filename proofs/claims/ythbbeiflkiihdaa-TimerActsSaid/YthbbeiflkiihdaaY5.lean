/-
  Contracts of the pile: where an id stands, is the first one due, pushed, popped.
-/
import Derived.Test.YthbbeiflkiihdaaY4
namespace Go.Proofs.Ythbbeiflkiihdaa.Y
open Go.RowKit
set_option maxHeartbeats 800000 in
theorem find_walk (B : Nat) (v : Value) (id : Int) (w : World) (c0 : w.cell? ⟨B, 0, none⟩ = some v) (P : Ending → World → Prop)
    (HI : Hid (∀ W, Below w.heap.size w W → W.cell? ⟨w.heap.size, 0, none⟩ = some (.int .i64 id) → Calls Try.prog 25 #[v, .func (.func 26) #[] #[.pointer (some ⟨w.heap.size, 0, none⟩)]] W fun e w' => ∃ r : Int, e = .returned (.int .i64 r) ∧ P (.returned (.int .i64 r)) w')) :
    Calls Try.prog 16 #[.pointer (some ⟨B, 0, none⟩), .int .i64 id] w P := by
  have hB := block_lt_of_cell c0
  have X := Lib.hid (Blk.new w [.int .i64 id] 3)
  have B0 := Lib.hid ((Below.refl w.heap.size w).alloc (Nat.le_refl _) (.cells #[.int .i64 id] 3))
  simp only at hB
  go_enter Try.func16, Try.ntmps16
  go_wp2_with fail
  refine (HI.out _ B0.out (X.out.cell 0 _ rfl)).mono ?_
  rintro e w2 ⟨r, rfl, hP⟩
  have HP := Lib.hid hP
  clear hP
  go_wp2_with fail
  exact HP.out
theorem find_no (B : Nat) (v : Value) (A : List Tim.T) (id : Int) (w : World) (h : Pl B v w A) (hl : A.length ≤ 1000000) (hh : Tim.has A id = false) :
    Calls Try.prog 16 #[.pointer (some ⟨B, 0, none⟩), .int .i64 id] w fun e w' => e = .returned (.int .i64 (-1)) ∧ Below w.heap.size w w' := by
  refine find_walk B v id w (h.box.cell 0 _ rfl) _ (Lib.hid fun W hW hc => (index_walk _ id v A (B + 1) W (h.arr.below hW) hl hc).mono ?_)
  rintro e w' ⟨r, rfl, hr, hb⟩
  refine ⟨r, rfl, ?_, bel2 hW hb⟩
  rcases hr with ⟨rfl, _⟩ | ⟨k, _, hk, hid⟩
  · rfl
  · exact absurd hid ((Tim.has_false A id).1 hh _ (by rw [Tim.g_eq A k hk]; exact List.getElem_mem _))
theorem find_yes (B : Nat) (v : Value) (A : List Tim.T) (id : Int) (w : World) (h : Pl B v w A) (hl : A.length ≤ 1000000) (hh : Tim.has A id = true) :
    Calls Try.prog 16 #[.pointer (some ⟨B, 0, none⟩), .int .i64 id] w fun e w' => ∃ k : Nat, e = .returned (.int .i64 (k : Int)) ∧ k < A.length ∧ (Tim.g A k).1 = id ∧ Below w.heap.size w w' := by
  refine find_walk B v id w (h.box.cell 0 _ rfl) _ (Lib.hid fun W hW hc => (index_walk _ id v A (B + 1) W (h.arr.below hW) hl hc).mono ?_)
  rintro e w' ⟨r, rfl, hr, hb⟩
  rcases hr with ⟨_, h0⟩ | ⟨k, rfl, hk, hid⟩
  · rw [hh] at h0; cases h0
  · exact ⟨_, rfl, k, rfl, hk, hid, bel2 hW hb⟩
set_option maxHeartbeats 800000 in
theorem isdue_none (B : Nat) (v : Value) (now : Int) (w : World) (h : Pl B v w []) : Calls Try.prog 22 #[.pointer (some ⟨B, 0, none⟩), .int .i64 now] w fun e w' => e = .returned (.bool false) ∧ Below w.heap.size w w' := by
  have HF := Lib.hid (first_none B v w h)
  clear h
  go_enter Try.func22, Try.ntmps22
  go_wp2_with fail
  refine HF.out.mono ?_
  rintro e w2 ⟨rfl, hb⟩
  have HB := Lib.hid (bel2 hb ((Below.refl w2.heap.size w2).alloc (Nat.le_refl _) (.cells #[.int .i64 0, .int .i64 0] 57)))
  clear hb
  go_wp2_with fail
  go_ret
  exact ⟨rfl, HB.out⟩
set_option maxHeartbeats 800000 in
theorem isdue_some (B : Nat) (v : Value) (A : List Tim.T) (now : Int) (w : World) (h : Pl B v w A) (h0 : 0 < A.length) :
    Calls Try.prog 22 #[.pointer (some ⟨B, 0, none⟩), .int .i64 now] w fun e w' => e = .returned (.bool (decide ((Tim.g A 0).2 ≤ now))) ∧ Below w.heap.size w w' := by
  have HF := Lib.hid (first_some B v A w h h0)
  clear h
  generalize Tim.g A 0 = x at *
  go_enter Try.func22, Try.ntmps22
  go_wp2_with fail
  refine HF.out.mono ?_
  rintro e w2 ⟨rfl, hb⟩
  have HB := Lib.hid (bel2 hb ((Below.refl w2.heap.size w2).alloc (Nat.le_refl _) (.cells #[.int .i64 x.1, .int .i64 x.2] 57)))
  clear hb
  go_wp2_with fail
  go_ret
  exact ⟨rfl, HB.out⟩
/-- A timer as an interface value. -/
def any (x : Tim.T) : Value := .iface 57 (.agg #[.int .i64 x.1, .int .i64 x.2])
theorem assert_any (z d : Int) (w : World) : (Instr.typeAssert (.iface 57 (.agg #[.int .i64 z, .int .i64 d])) 20 57 true).run Try.prog w = .ok (.tuple #[.agg #[.int .i64 z, .int .i64 d], .bool true]) w := by kernel_rfl
set_option maxHeartbeats 1600000 in
theorem push_any (B : Nat) (v : Value) (A : List Tim.T) (x : Tim.T) (w : World) (h : Pl B v w A) (hl : A.length ≤ 1000000) :
    Calls Try.prog 50 #[.pointer (some ⟨B, 0, none⟩), any x] w fun e w' => e = .returned (.tuple #[]) ∧ ∃ v', Pl B v' w' (A ++ [x]) ∧ Mv B v v' w w' := by
  obtain ⟨p, cap, rfl⟩ := h.form
  unfold any
  have B0 := (Below.refl w.heap.size w).alloc (Nat.le_refl _) (.cells #[.int .i64 x.1, .int .i64 x.2] 57)
  have X1 := Blk.new w [.int .i64 x.1, .int .i64 x.2] 57
  obtain ⟨z, d⟩ := x
  have g0 := h.lt
  have c0 := h.box.cell 0 _ rfl
  have H1 := Lib.hid (h.below B0)
  have B1 := (Below.refl (w.alloc (.cells #[.int .i64 z, .int .i64 d] 57)).heap.size _).alloc (Nat.le_refl _) (.cells #[.int .i64 z, .int .i64 d] 57)
  have H2 := Lib.hid (H1.out.below B1)
  have X2 := (Blk.new (w.alloc (.cells #[.int .i64 z, .int .i64 d] 57)) [.int .i64 z, .int .i64 d] 57).at (n := w.heap.size + 1) (by simp)
  have k0 := X2.cell 0 _ rfl
  have k1 := X2.cell 1 _ rfl
  have HM := Lib.hid (bel2 B0 B1)
  have hz : B + 1 ≤ w.heap.size + 2 := by omega
  have HH := Lib.hid h
  have ea := assert_any z d
  clear B0 B1 X1 X2 h
  go_enter Try.func50, Try.ntmps50
  have hR := H2.out.arr
  have hX := H2.out.box
  have hz2 : B + 1 ≤ (((w.alloc (.cells #[.int .i64 z, .int .i64 d] 57)).alloc (.cells #[.int .i64 z, .int .i64 d] 57)).drew).heap.size := by simp; omega
  have ne : some B ≠ (Value.slice p A.length cap).ownBlock := fun e => by have := (hR.lt B e.symm).1; omega
  have HR := Lib.hid hR
  have HX := Lib.hid hX
  clear hR hX
  go_wp2_with fail
  go_region_law (refine step_catT rfl _ _ rfl (B + 1) A (z, d) HR.out hz2 k0 k1 rfl rfl (by omega) ?_; intro v' w6 hr6 hg6 hq6; have HR6 := Lib.hid hr6; obtain ⟨p6, cap6, rfl⟩ := hr6.form; have hb6 := Blk.grown HX.out.drew hg6 ne; have m0 := hb6.cell 0 _ rfl; have fz := hb6.2)
  all_goals
    have HS := Lib.hid (hb6.set 0 (.slice p6 (A ++ [(z, d)]).length cap6))
    have HV := Lib.hid ((((Mv.of_below HM.out.drew B (.slice p A.length cap)).trans (Mv.of_push hg6 hq6 B)).trans (Mv.of_set w6 B 0 (.slice p6 (A ++ [(z, d)]).length cap6) _)))
    clear hr6 hg6 hq6 hb6 m0 fz
    go_end0
    exact ⟨rfl, .slice p6 (A ++ [(z, d)]).length cap6, ⟨by simpa using HS.out, by simpa using HR6.out.setBox 0 (.slice p6 (A ++ [(z, d)]).length cap6)⟩, by simpa using HV.out⟩
end Go.Proofs.Ythbbeiflkiihdaa.Y
