/-
  The walk of the law of short texts.
-/
import Derived.Test.YtfhohfjepnhfcaaW6
import Derived.RegionTactic
import Derived.ChangeAlike
import Derived.Deep.RegionWith
import Derived.BigRegion
namespace Go.Proofs.Ytfhohfjepnhfcaa
open Go.RowKit
/-- Two bytes, wherever they lie, as a string. -/
theorem conv_two (W : World) (B : Nat) (p q : UInt8) (x y : Int) (hx : (p.toNat : Int) = x) (hy : (q.toNat : Int) = y)
    (h0 : W.cell? ⟨B, 0, none⟩ = some (.int .u8 x)) (h1 : W.cell? ⟨B, 1, none⟩ = some (.int .u8 y)) :
    (convert 33 9 (.slice (some ⟨B, 0, none⟩) 2 2)).run Try.prog W = .ok (.string ⟨#[p, q]⟩) W := by
  refine run_convert_bytes_back W 33 9 5 ⟨B, 0, none⟩ 2 [p, q] Try.underlying33 Try.underlying5 Try.underlying9 ?_
  intro j hj
  have e : (⟨B, 0, none⟩ : Addr).add j = ⟨B, j, none⟩ := by unfold Addr.add; split <;> simp_all
  rw [e]
  match j, hj with
  | 0, _ => rw [h0, ← hx]; rfl
  | 1, _ => rw [h1, ← hy]; rfl
theorem bcell {W w1 : World} (hb : Below W.heap.size W w1) : (∀ b o, b < W.heap.size → w1.cell? ⟨b, o, none⟩ = W.cell? ⟨b, o, none⟩) ∧ (∀ b o, b < W.heap.size → w1.frozen? ⟨b, o, none⟩ = W.frozen? ⟨b, o, none⟩) :=
  ⟨fun b o h => hb.cell (p := ⟨b, o, none⟩) h, fun b o h => hb.frozen (p := ⟨b, o, none⟩) h⟩
theorem byte_of (a : Int) : ∃ p : UInt8, (p.toNat : Int) = a % 256 := ⟨UInt8.ofNat (a % 256).toNat, by simp; omega⟩
set_option maxHeartbeats 400000 in
theorem walk_shorts (a b : Int) (_ha : (Lit.int .i64 a).wf = true) (_hb : (Lit.int .i64 b).wf = true) (w : World) :
    Calls Try.prog 7 #[.int .i64 a, .int .i64 b] w fun e w' => e = .returned (.bool true) ∧ Below w.heap.size w w' := by
  obtain ⟨p, hp⟩ := byte_of a
  obtain ⟨q, hq⟩ := byte_of b
  have h1 := fun W => conv_new W [p] #[Value.int .u8 (a % 256)] (by rw [← hp]; rfl)
  have h2 := fun W => conv_new W [p, q] #[Value.int .u8 (a % 256), Value.int .u8 (b % 256)] (by rw [← hp, ← hq]; rfl)
  rw [show ([p] : List UInt8).length = 1 from rfl] at h1
  rw [show ([p, q] : List UInt8).length = 2 from rfl] at h2
  have h3 := fun W B => conv_two W B p q (IntKind.u8.wrap a) (IntKind.u8.wrap b) (by rw [hp, IntKind.wrap_u8']) (by rw [hq, IntKind.wrap_u8'])
  have H1 := Lib.hid h1
  have H2 := Lib.hid h2
  have H3 := Lib.hid h3
  clear h1 h2 h3 hp hq
  have c0 := fun w => check_list [] w (by decide)
  have c1 := fun w => check_list [p] w (by show (1 : Nat) ≤ _; omega)
  have c2 := fun w => check_list [p, q] w (by show (2 : Nat) ≤ _; omega)
  have p0 := fun w => put_list [] w (by decide)
  rw [Crc.check_short [] (by decide)] at c0
  rw [Crc.check_short [p] (by show (1 : Nat) < 2; omega)] at c1
  rw [show [p, q] = [] ++ [p, q] from rfl, Crc.check_split [] [p, q] rfl, show Crc.wire (Crc.sum []) = [0, 0] by decide] at c2
  rw [show Crc.put [] = [0, 0] by decide] at p0
  have C0 := Lib.hid c0
  have C1 := Lib.hid c1
  have P0 := Lib.hid p0
  clear c0 c1 p0
  by_cases h : [p, q] = [0, 0]
  · rw [if_pos h] at c2
    have C2 := Lib.hid c2
    clear c2
    obtain ⟨rfl, rfl⟩ : p = 0 ∧ q = 0 := by simpa using h
    clear h
    go_enter Try.func7, Try.ntmps7
    go_wp2_with fail
    refine (awake_any _).mono ?_
    rintro e w0 ⟨rfl, hb0⟩
    go_wp2_with fail
    refine (C0.out _).mono ?_
    rintro e w1 ⟨rfl, hb1⟩
    have h1 := H1.out w1
    go_wp2_with fail
    refine (C1.out _).mono ?_
    rintro e w2 ⟨rfl, hb2⟩
    clear h1
    have h2 := H2.out w2
    go_wp2_with fail
    refine (C2.out _).mono ?_
    rintro e w3 ⟨rfl, hb3⟩
    clear h2
    have B3 : Below w.heap.size w w3 := bel2 (bel2 (bel2 (bel2 (bel2 hb0 hb1) ((Below.refl _ w1).alloc (Nat.le_refl _) _)) hb2) ((Below.refl _ w2).alloc (Nat.le_refl _) _)) hb3
    clear hb0 hb1 hb2 hb3
    go_wp2_with fail
    have h3 := H3.out
    go_region_with (go_at_call 12; refine (P0.out _).mono ?_; rintro e w4 ⟨rfl, hb4⟩; obtain ⟨hc4, hf4⟩ := bcell hb4)
    all_goals
      clear h3
      go_wp2_with (go_at_call 14; refine (num_any _ _).mono ?_; rintro e w9 ⟨rfl, rfl⟩)
      go_ret
      first
        | exact ⟨rfl, (bel2 B3.drew hb4).alloc (Nat.le_trans B3.size hb4.size) _⟩
        | exact ⟨rfl, bel2 (B3.alloc B3.size _).drew hb4⟩
  · rw [if_neg h] at c2
    have C2 := Lib.hid c2
    clear c2
    have h0 : ([0, 0] == [p, q]) = false := by
      rw [beq_eq_false_iff_ne]
      exact fun e => h e.symm
    clear h
    go_enter Try.func7, Try.ntmps7
    go_wp2_with fail
    refine (awake_any _).mono ?_
    rintro e w0 ⟨rfl, hb0⟩
    go_wp2_with fail
    refine (C0.out _).mono ?_
    rintro e w1 ⟨rfl, hb1⟩
    have h1 := H1.out w1
    go_wp2_with fail
    refine (C1.out _).mono ?_
    rintro e w2 ⟨rfl, hb2⟩
    clear h1
    have h2 := H2.out w2
    go_wp2_with fail
    refine (C2.out _).mono ?_
    rintro e w3 ⟨rfl, hb3⟩
    clear h2
    have B3 : Below w.heap.size w w3 := bel2 (bel2 (bel2 (bel2 (bel2 hb0 hb1) ((Below.refl _ w1).alloc (Nat.le_refl _) _)) hb2) ((Below.refl _ w2).alloc (Nat.le_refl _) _)) hb3
    clear hb0 hb1 hb2 hb3
    go_wp2_with fail
    have h3 := H3.out
    go_region_with (go_at_call 12; refine (P0.out _).mono ?_; rintro e w4 ⟨rfl, hb4⟩; obtain ⟨hc4, hf4⟩ := bcell hb4)
    all_goals
      clear h3
      go_wp2_with (go_at_call 14; refine (num_any _ _).mono ?_; rintro e w9 ⟨rfl, rfl⟩)
      go_ret
      first
        | exact ⟨rfl, (bel2 B3.drew hb4).alloc (Nat.le_trans B3.size hb4.size) _⟩
        | exact ⟨rfl, bel2 (B3.alloc B3.size _).drew hb4⟩
end Go.Proofs.Ytfhohfjepnhfcaa
