/-
  Contracts of the fields of a text behind a pointer: a piece taken off.
-/
import Derived.Test.YtkdlhonbpciceaaHMath
import Derived.Test.YtkdlhonbpciceaaText
import Derived.Test.YtkdlhonbpciceaaBox2
namespace Go.Proofs.Ytkdlhonbpciceaa.H
open Go.RowKit
/-- Block 'B' holds the fields 'f', and may be written. -/
def Fl (B : Nat) (w : World) (f : Chp.Fld) : Prop := Box B w [.string ⟨f.1.toArray⟩, .bool f.2] ∧ ∀ o, w.frozen? ⟨B, o, none⟩ = false
theorem Fl.lt {B : Nat} {w : World} {f : Chp.Fld} (h : Fl B w f) : B < w.heap.size := h.1.lt
theorem Fl.below {B : Nat} {w w' : World} {f : Chp.Fld} (h : Fl B w f) (k : Below w.heap.size w w') : Fl B w' f := ⟨h.1.below k, fun o => (k.frozen (p := ⟨B, o, none⟩) h.lt).trans (h.2 o)⟩
theorem Fl.grown {B : Nat} {w w' : World} {f : Chp.Fld} {r : Nat} (h : Fl B w f) (k : w.grownBy w' (some r)) (hne : B ≠ r) : Fl B w' f :=
  have e : w'.heap[B]? = w.heap[B]? := k.block B h.lt (by simpa using hne)
  ⟨h.1.grown k (by simpa using hne), fun o => (World.frozen?_of_block (a := ⟨B, o, none⟩) e).trans (h.2 o)⟩
theorem Fl.rest {B : Nat} {w : World} {f : Chp.Fld} (h : Fl B w f) (l : List UInt8) : Fl B (w.setCell ⟨B, 0, none⟩ (.string ⟨l.toArray⟩)) (l, f.2) := by
  refine ⟨fun j u hj => ?_, fun o => by rw [World.frozen?_setCell]; exact h.2 o⟩
  match j, hj with
  | 0, hj => cases hj; exact World.cell?_setCell_same _ _ _ (h.1 0 _ rfl)
  | 1, hj => cases hj; rw [World.cell?_setCell_other _ _ _ _ (by intro e; injection e with _ e; cases e)]; exact h.1 1 _ rfl
theorem Fl.short {B : Nat} {w : World} {f : Chp.Fld} (h : Fl B w f) : Fl B (w.setCell ⟨B, 1, none⟩ (.bool true)) (f.1, true) := by
  refine ⟨fun j u hj => ?_, fun o => by rw [World.frozen?_setCell]; exact h.2 o⟩
  match j, hj with
  | 1, hj => cases hj; exact World.cell?_setCell_same _ _ _ (h.1 1 _ rfl)
  | 0, hj => cases hj; rw [World.cell?_setCell_other _ _ _ _ (by intro e; injection e with _ e; cases e)]; exact h.1 0 _ rfl
set_option maxHeartbeats 400000 in
theorem piece_low (B : Nat) (s : ByteArray) (k : Int) (w : World) (c0 : w.cell? ⟨B, 0, none⟩ = some (.string s)) (f1 : w.frozen? ⟨B, 1, none⟩ = false) (c1 : ∃ b, w.cell? ⟨B, 1, none⟩ = some (.bool b)) (h : k < 0 ∨ (s.size : Int) < k) :
    Calls Try.prog 21 #[.pointer (some ⟨B, 0, none⟩), .int .i64 k] w fun e w' => e = .returned (.string ⟨#[]⟩) ∧ w' = w.setCell ⟨B, 1, none⟩ (.bool true) := by
  obtain ⟨b, c1⟩ := c1
  by_cases h1 : k < 0
  · clear h
    go_enter Try.func21, Try.ntmps21
    go_wp2_with fail
    go_ret
    exact ⟨rfl, rfl⟩
  · have h2 : (s.size : Int) < k := by omega
    clear h
    go_enter Try.func21, Try.ntmps21
    go_wp2_with fail
    go_ret
    exact ⟨rfl, rfl⟩
set_option maxHeartbeats 400000 in
theorem piece_in (B : Nat) (s x y : ByteArray) (k : Nat) (w : World) (c0 : w.cell? ⟨B, 0, none⟩ = some (.string s)) (f1 : w.frozen? ⟨B, 0, none⟩ = false) (h : k ≤ s.size) (hx : s.extract 0 k = x) (hy : s.extract k s.size = y) :
    Calls Try.prog 21 #[.pointer (some ⟨B, 0, none⟩), .int .i64 (k : Int)] w fun e w' => e = .returned (.string x) ∧ w' = w.setCell ⟨B, 0, none⟩ (.string y) := by
  have h1 : (0 : Int) ≤ (k : Int) := by omega
  have h2 : (k : Int) ≤ (s.size : Int) := by omega
  go_enter Try.func21, Try.ntmps21
  go_wp2_with fail
  go_ret
  exact ⟨rfl, rfl⟩
/-- The contract of piece. -/
theorem piece_any (f : Chp.Fld) (k : Int) (B : Nat) (w : World) (h : Fl B w f) :
    Calls Try.prog 21 #[.pointer (some ⟨B, 0, none⟩), .int .i64 k] w fun e w' => e = .returned (.string ⟨(Chp.piece f k).1.toArray⟩) ∧ Fl B w' (Chp.piece f k).2 ∧ w.grownBy w' (some B) := by
  by_cases hk : k < 0 ∨ (f.1.length : Int) < k
  · rw [Chp.piece_bad f k hk]
    refine (piece_low B ⟨f.1.toArray⟩ k w (h.1 0 _ rfl) (h.2 1) ⟨_, h.1 1 _ rfl⟩ (by rw [sz]; exact hk)).mono ?_
    rintro e w' ⟨rfl, rfl⟩
    exact ⟨rfl, h.short, grown_cell _ _ _⟩
  · obtain ⟨n, rfl⟩ : ∃ n : Nat, k = n := ⟨k.toNat, by omega⟩
    have hn : n ≤ f.1.length := by omega
    rw [Chp.piece_good f n hn]
    refine (piece_in B ⟨f.1.toArray⟩ ⟨(f.1.take n).toArray⟩ ⟨(f.1.drop n).toArray⟩ n w (h.1 0 _ rfl) (h.2 0) (by rw [sz]; exact hn) (by rw [cut_list]; rfl) (tail_list _ _)).mono ?_
    rintro e w' ⟨rfl, rfl⟩
    exact ⟨rfl, h.rest _, grown_cell _ _ _⟩
end Go.Proofs.Ytkdlhonbpciceaa.H
