/-
  What every program of stage 16 answers that is one.
-/
import Derived.Test.YtaagfmnpeimakaaDoorCp8
import Derived.Test.YtaagfmnpeimakaaDoorDgT
namespace Go.Proofs.YtaagfmnpeimakaaDoor.Cp
open Go.RowKit
set_option maxRecDepth 100000
abbrev Tab := Dg.Tab
theorem tab_laid {W : World} {laid : List (String × DataW Unit)} (h : laidMet Tryd.prog laid W) (hm : ("withy/digest.sines", (Rows.laid_withy_digest_sines : DataW Unit)) ∈ laid ∧ ("withy/digest.turns", (Rows.laid_withy_digest_turns : DataW Unit)) ∈ laid) (hs : W.ShapedOpen Tryd.prog) : Tab W := Dg.tab_laid h hm hs
def me : List UInt8 := [109, 101]
def p0 : Pf := Prf.born me [109, 105, 110, 101] [105, 116, 115] 3
def p1 : Pf := { p0 with challenge := [97, 98, 99] }
def p2 : Pf := { p1 with proved := true }
abbrev NewPost (w : World) (p : Pf) : Ending → World → Prop := fun e w' => ∃ B, e = .returned (.tuple #[.pointer (some ⟨B, 0, none⟩), .int .i64 0]) ∧ w.heap.size ≤ B ∧ Rg B w' p ∧ Below w.heap.size w w'
theorem chg_bel {B : Nat} {a w w' : World} (hb : Below a.heap.size a w) (hB : a.heap.size ≤ B) (k : Chg (One B) w w') : Below a.heap.size a w' := k.below hb hb.size fun i hi e => by have e : i = B := e; omega
set_option maxHeartbeats 3200000 in
theorem awake_walk (D : List UInt8) (w : World) (T : Hid (Dg.Tab w))
    (N1 : Hid (Calls Tryd.prog 8 #[.string { data := #[109, 101] }, .string { data := #[109, 105, 110, 101] }, .string { data := #[105, 116, 115] }, .int .i64 3] w (NewPost w p0)))
    (S1 : Hid (∀ B W, Rg B W p0 → Calls Tryd.prog 12 #[.pointer (some ⟨B, 0, none⟩), .string { data := #[97, 98, 99] }] W (MsgPost B W (p1, (1, 1, [97, 98, 99], me), 0))))
    (CH : Hid (∀ W, Calls Tryd.prog 16 #[.int .i64 1, .string { data := #[105, 116, 115] }, .string { data := #[97, 98, 99] }] W fun e w' => e = .returned (.string ⟨D.toArray⟩) ∧ Below W.heap.size W w'))
    (TK : Hid (∀ B W, Rg B W p1 → Hid (Dg.Tab W) → Calls Tryd.prog 17 #[.pointer (some ⟨B, 0, none⟩), mv (2, 1, D, [120])] W (TakePost B W (p2, [(3, 1, [], Prf.ok)], 0))))
    (S2 : Hid (∀ B W, Rg B W p2 → Calls Tryd.prog 12 #[.pointer (some ⟨B, 0, none⟩), .string { data := #[97, 98, 99] }] W (MsgPost B W (p2, (0, 0, [], []), 1601))))
    (N2 : Hid (∀ W, Calls Tryd.prog 8 #[.string { data := #[109, 101] }, .string { data := #[] }, .string { data := #[105, 116, 115] }, .int .i64 3] W fun e w' => e = .returned (.tuple #[.pointer none, .int .i64 1600]) ∧ W = w')) :
    Calls Tryd.prog 11 #[] w fun e w' => e = .returned (.bool true) ∧ Below w.heap.size w w' := by
  have EQ := eqC_yes 1 1 [97, 98, 99] [109, 101]
  have E1 := EQ.1
  have E2 := EQ.2.2
  have E3 := guardC
  clear EQ
  go_enter Tryd.func11, Tryd.ntmps11
  go_wp2_with fail
  refine N1.out.mono ?_
  rintro e w1 ⟨B, rfl, hB, hr1, hb1⟩
  have R1 := Lib.hid hr1
  have B1 := Lib.hid hb1
  have HB := Lib.hid hB
  clear hr1 hb1 N1
  go_wp2_with (go_at_call 10; refine (num_any _ _).mono ?_; rintro e w9 ⟨rfl, rfl⟩)
  refine (S1.out _ _ R1.out).mono ?_
  rintro e w2 ⟨rfl, hr2, hc2⟩
  have R2 := Lib.hid (hr2.below ((Below.refl w2.heap.size w2).alloc (Nat.le_refl _) (.cells #[.int .i64 1, .int .i64 1, .string { data := #[97, 98, 99] }, .string { data := #[109, 101] }] 33)))
  have B2 := Lib.hid (bel2 (chg_bel B1.out HB.out hc2) ((Below.refl w2.heap.size w2).alloc (Nat.le_refl _) (.cells #[.int .i64 1, .int .i64 1, .string { data := #[97, 98, 99] }, .string { data := #[109, 101] }] 33)))
  have Y2 : Hid (Arr w2.heap.size (w2.alloc (.cells #[.int .i64 1, .int .i64 1, .string { data := #[97, 98, 99] }, .string { data := #[109, 101] }] 33)) (mcs (1, 1, [97, 98, 99], me))) := Lib.hid (Arr.new w2 (mcs (1, 1, [97, 98, 99], me)) _)
  have g2 : Hid (B ≠ w2.heap.size) := Lib.hid (Nat.ne_of_lt hr2.lt)
  clear hr2 hc2 S1 R1
  go_wp2_with fail
  refine (CH.out _).mono ?_
  rintro e w3 ⟨rfl, hb3⟩
  have R3 := Lib.hid (R2.out.below hb3)
  have B3 := Lib.hid (bel2 B2.out hb3)
  have Y3 := Lib.hid (Y2.out.below hb3)
  clear hb3 CH R2 Y2
  go_wp2_with fail
  refine (TK.out _ _ R3.out (Lib.hid (T.out.below B3.out))).mono ?_
  rintro e w4 ⟨v4, rfl, ho4, hr4, hc4⟩
  have R4 := Lib.hid hr4
  have O4 := Lib.hid ho4
  have B4 := Lib.hid (chg_bel B3.out HB.out hc4)
  have Y4 := Lib.hid (Arr.chg Y3.out hc4 (fun e => g2.out (Eq.symm e)))
  have h34 : Hid (w3.heap.size ≤ w4.heap.size ∧ B < w3.heap.size) := Lib.hid ⟨hc4.size, R3.out.lt⟩
  clear ho4 hr4 hc4 TK R3 Y3
  go_wp2_with fail
  refine (S2.out _ _ R4.out).mono ?_
  rintro e w5 ⟨rfl, hr5, hc5⟩
  have hbz := (Below.refl w5.heap.size w5).alloc (Nat.le_refl _) (.cells #[.int .i64 0, .int .i64 0, .string { data := #[] }, .string { data := #[] }] 33)
  have R5 := Lib.hid (hr5.below hbz)
  have B5 := Lib.hid (bel2 (chg_bel B4.out HB.out hc5) hbz)
  have Y5 := Lib.hid ((Arr.chg Y4.out hc5 (fun e => g2.out (Eq.symm e))).below hbz)
  have O5 := Lib.hid ((O4.out.chg hc5 (fun g hg e => by have e : g = B := e; have := h34.out.2; omega)).below hbz)
  clear hbz hr5 hc5 S2 R4 Y4 O4
  go_wp2_with fail
  refine (N2.out _).mono ?_
  rintro e w6 ⟨rfl, rfl⟩
  generalize w5.alloc (.cells #[.int .i64 0, .int .i64 0, .string { data := #[] }, .string { data := #[] }] 33) = w7 at *
  have k0 := Y5.out.cell 0 _ rfl
  have k1 := Y5.out.cell 1 _ rfl
  have k2 := Y5.out.cell 2 _ rfl
  have k3 := Y5.out.cell 3 _ rfl
  have zy := Y5.out.lt
  have hbl := (Below.refl w7.heap.size w7).alloc (Nat.le_refl _) (.cells #[.int .i64 3, .int .i64 1, .string { data := #[] }, .string { data := #[111, 107] }] 33)
  have SM := Lib.hid (same_any (O5.out.below hbl) (Out.lit (Nat.le_refl w7.heap.size) (3, 1, [], Prf.ok) _ rfl))
  have B7 := Lib.hid (bel2 B5.out hbl)
  have R7 := Lib.hid (R5.out.below hbl)
  clear hbl N2
  go_wp2_with (first
    | (go_at_call 10; refine (num_any _ _).mono ?_; rintro e w9 ⟨rfl, rfl⟩)
    | (go_at_call 19; refine SM.out.mono ?_; rintro e w8 ⟨rfl, hb8⟩; have R8 := Lib.hid (R7.out.below hb8); have B8 := Lib.hid (bel2 B7.out hb8); clear hb8)
    | (go_at_call 20; refine (proved_any _ _ _ R8.out).mono ?_; rintro e w9 ⟨rfl, rfl⟩)
    | (go_at_call 21; refine (taken_any _ _ _ R8.out).mono ?_; rintro e w9 ⟨rfl, rfl⟩)
    | (go_at_call 22; refine (failed_any _ _ _ R8.out).mono ?_; rintro e w9 ⟨rfl, rfl⟩))
  go_ret
  exact ⟨rfl, B8.out⟩
theorem p1_fit : p1.Fit := ⟨by decide, by decide, by decide, by decide, by decide, fun _ => by decide⟩
theorem p2_fit : p2.Fit := ⟨by decide, by decide, by decide, by decide, by decide, fun _ => by decide⟩
theorem awake_any (w : World) (T : Hid (Dg.Tab w)) : Calls Tryd.prog 11 #[] w fun e w' => e = .returned (.bool true) ∧ Below w.heap.size w w' := by
  refine awake_walk (Prf.sum 1 [105, 116, 115] [97, 98, 99]) w T ?_ ?_ ?_ ?_ ?_ ?_
  · exact Lib.hid (new_good me [109, 105, 110, 101] [105, 116, 115] 3 w (by decide))
  · exact Lib.hid fun B W h => Start_any B p0 [97, 98, 99] W h (by decide) (by decide)
  · exact Lib.hid fun W => Dg.rchap_any 1 [105, 116, 115] [97, 98, 99] W (by decide)
  · refine Lib.hid fun B W h hT => ?_
    have k := Take_any B p1 1 (Prf.sum 1 [105, 116, 115] [97, 98, 99]) [120] W h 2 p1_fit hT (by rw [Prf.sum_length]; decide)
    rwa [Prf.take_right p1 (Prf.sum 1 [105, 116, 115] [97, 98, 99]) [120] rfl (by decide) (.inr rfl) (by rw [Prf.sum_length]; decide) (by decide)] at k
  · exact Lib.hid fun B W h => Start_any B p2 [97, 98, 99] W h (by decide) (by decide)
  · exact Lib.hid fun W => new_bad me [] [105, 116, 115] 3 W (by decide) (by decide) (by decide) (by decide)
end Go.Proofs.YtaagfmnpeimakaaDoor.Cp
