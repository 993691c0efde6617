/-
  Contract of the pile: the last one taken away.
-/
import Derived.Test.YthbbeiflkiihdaaY5
namespace Go.Proofs.Ythbbeiflkiihdaa.Y
open Go.RowKit
set_option maxHeartbeats 1600000 in
theorem pop_walk (B G n cap o8 : Nat) (x : Tim.T) (w : World) (hG : G < w.heap.size) (c0 : w.cell? ⟨B, 0, none⟩ = some (.slice (some ⟨G, 0, none⟩) (n + 1) cap)) (fz : ∀ o, w.frozen? ⟨B, o, none⟩ = false) (hcap : n + 1 ≤ cap) (hn : n ≤ 1000000)
    (hi : ∀ W : World, (Instr.indexAt 48 (.slice (some ⟨G, 0, none⟩) (n + 1) cap) (.int .i64 (n : Int))).run Try.prog W = .ok (.pointer (some ⟨G, o8, none⟩)) W)
    (k0 : w.cell? ⟨G, o8, none⟩ = some (.int .i64 x.1)) (k1 : w.cell? ⟨G, o8 + 1, none⟩ = some (.int .i64 x.2)) :
    Calls Try.prog 49 #[.pointer (some ⟨B, 0, none⟩)] w fun e w' => e = .returned (any x) ∧ w' = (w.setCell ⟨B, 0, none⟩ (.slice (some ⟨G, 0, none⟩) n cap)).alloc (.cells #[.int .i64 x.1, .int .i64 x.2] 57) := by
  have hB := block_lt_of_cell c0
  have HL := Lib.hid fun W => len_any (some ⟨G, 0, none⟩) (n + 1) cap W
  unfold any
  simp only at hB
  go_enter Try.func49, Try.ntmps49
  go_wp2_with (go_at_call 18; with_reducible refine (HL.out _).mono ?_; rintro e w2 ⟨rfl, rfl⟩)
  go_ret
  exact ⟨rfl, rfl⟩
theorem pop_any (B n : Nat) (v : Value) (A : List Tim.T) (w : World) (h : Pl B v w A) (hl : A.length = n + 1) (hn : n ≤ 1000000) :
    Calls Try.prog 49 #[.pointer (some ⟨B, 0, none⟩)] w fun e w' => e = .returned (any (Tim.g A n)) ∧ ∃ v', Pl B v' w' (A.take n) ∧ Mv B v v' w w' ∧ v'.ownBlock = v.ownBlock := by
  obtain ⟨G, cap, rfl, hb, hcap, hG⟩ := h.arr.full (by omega)
  obtain ⟨k0, k1⟩ := h.arr.cells n (by omega)
  have hi := indexT G A.length cap n (by omega)
  have c0 := h.box.cell 0 _ rfl
  rw [hl] at hi c0 hcap
  refine (pop_walk B G n cap (2 * n) (Tim.g A n) w hG c0 h.box.2 hcap hn hi k0 k1).mono ?_
  rintro e w' ⟨rfl, rfl⟩
  have hr := h.arr.take n (by omega)
  have hp : Pl B (.slice (some ⟨G, 0, none⟩) n cap) (w.setCell ⟨B, 0, none⟩ (.slice (some ⟨G, 0, none⟩) n cap)) (A.take n) := ⟨h.box.set 0 _, hr.setBox 0 _⟩
  have hb2 := (Below.refl (w.setCell ⟨B, 0, none⟩ (.slice (some ⟨G, 0, none⟩) n cap)).heap.size _).alloc (Nat.le_refl _) (.cells #[.int .i64 (Tim.g A n).1, .int .i64 (Tim.g A n).2] 57)
  exact ⟨rfl, _, hp.below hb2, ((Mv.of_set w B 0 (.slice (some ⟨G, 0, none⟩) n cap) _).trans (Mv.of_below hb2 B _)).as (fun k hk => hk), rfl⟩
end Go.Proofs.Ythbbeiflkiihdaa.Y
