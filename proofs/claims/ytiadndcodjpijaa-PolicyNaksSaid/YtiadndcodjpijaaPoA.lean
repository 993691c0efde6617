/-
  What every program of stage 14 answers that is one.
-/
import Derived.Test.YtiadndcodjpijaaLnk
import Derived.Test.YtiadndcodjpijaaPoMath2
import Derived.Test.YtiadndcodjpijaaNum
namespace Go.Proofs.Ytiadndcodjpijaa.Pol
def own7 : Lk := ⟨1500, 7, 0, false, [], 0⟩
theorem own7_ask : ask own7 = ([(1, [5, 220]), (5, [0, 0, 0, 7])], 0) := by decide +kernel
theorem own7_nak : judge Pl.nm own7 [(5, [0, 0, 0, 7])] = (1, [(5, [255, 255, 255, 248])], 0) := by decide +kernel
theorem own7_rej : judge Pl.nm own7 [(18, [])] = (2, [(18, [])], 0) := by decide +kernel
theorem own7_learn : learn Pl.nm own7 4 [(1, [120, 120])] = (⟨0, 7, 0, false, [], 0⟩, 0) := by decide +kernel
theorem own7_taken : taken Pl.nm [(1, [5, 220]), (5, [0, 0, 0, 7])] = (own7, 0) := by decide +kernel
theorem one_ask : ask ⟨1, 0, 0, false, [], 0⟩ = ([], 1400) := by decide +kernel
end Go.Proofs.Ytiadndcodjpijaa.Pol
namespace Go.Proofs.Ytiadndcodjpijaa.Pl
open Go.RowKit
set_option maxHeartbeats 1600000 in
set_option maxRecDepth 100000 in
theorem awake_any (w : World) (PO : Hid (PolOk w)) : Calls Try.prog 9 #[] w fun e w' => e = .returned (.bool true) ∧ Below w.heap.size w w' := by
  have C1 := Lib.hid fun W hb => PO.out.ask Pol.own7 W hb
  have C2 := Lib.hid fun v W hb hr => PO.out.judge Pol.own7 v [(5, [0, 0, 0, 7])] W hb hr (by decide)
  have C3 := Lib.hid fun v W hb hr => PO.out.judge Pol.own7 v [(18, [])] W hb hr (by decide)
  have C4 := Lib.hid fun v W hb hr => PO.out.learn Pol.own7 4 v [(1, [120, 120])] W hb hr (by decide) (by decide)
  have C5 := Lib.hid fun v W hb hr => PO.out.taken v [(1, [5, 220]), (5, [0, 0, 0, 7])] W hb hr (by decide) (by decide) (by decide)
  have C6 := Lib.hid fun W hb => PO.out.ask ⟨1, 0, 0, false, [], 0⟩ W hb
  rw [Pol.own7_ask] at C1
  rw [Pol.own7_nak] at C2
  rw [Pol.own7_rej] at C3
  rw [Pol.own7_learn] at C4
  rw [Pol.own7_taken] at C5
  rw [Pol.one_ask] at C6
  have hl1 : lv ⟨1, 0, 0, false, [], 0⟩ = .agg #[.int .i64 1, .int .i64 0, .int .i64 0, .bool false, .string { data := #[] }, .int .i64 0] := rfl
  rw [hl1] at C6
  clear hl1
  have K1 : Hid (Lnk w.heap.size (w.alloc (.cells (lcs Pol.own7).toArray 23)) Pol.own7) := Lib.hid (Lnk.new w Pol.own7)
  have B1 := Lib.hid ((Below.refl w.heap.size w).alloc (Nat.le_refl _) (.cells (lcs Pol.own7).toArray 23))
  have hO : (lcs Pol.own7).toArray = #[.int .i64 1500, .int .i64 7, .int .i64 0, .bool false, .string ⟨#[]⟩, .int .i64 0] := rfl
  rw [hO] at K1 B1
  clear hO
  go_enter Try.func9, Try.ntmps9
  have gL := guardL
  have E1 : Hid (EqL (lv ⟨0, 7, 0, false, [], 0⟩) (lv ⟨0, 7, 0, false, [], 0⟩) true) := Lib.hid (eqL_any ⟨0, 7, 0, false, [], 0⟩ ⟨0, 7, 0, false, [], 0⟩)
  have E2 : Hid (EqL (lv Pol.own7) (lv Pol.own7) true) := Lib.hid (eqL_any Pol.own7 Pol.own7)
  obtain ⟨m7, hm7⟩ : ∃ m : Pol.Lk, m = ⟨0, 7, 0, false, [], 0⟩ := ⟨_, rfl⟩
  have e1 : ∀ W : World, (binOp .eql 23 (lv m7) (.agg #[.int .i64 0, .int .i64 7, .int .i64 0, .bool false, .string ⟨#[]⟩, .int .i64 0])).run Try.prog W = .ok (.bool true) W := hm7 ▸ E1.out.2.2
  have e2 := E2.out.2.2
  have g1 : ∀ op x y (W : World), (eqGuard op 23 x y (lv m7) (.agg #[.int .i64 0, .int .i64 7, .int .i64 0, .bool false, .string ⟨#[]⟩, .int .i64 0])).run Try.prog W = .ok () W := fun op x y W => guard_lv op x y m7 ⟨0, 7, 0, false, [], 0⟩ W
  have g2 : ∀ op x y (W : World), (eqGuard op 23 x y (lv Pol.own7) (lv Pol.own7)).run Try.prog W = .ok () W := fun op x y W => guard_lv op x y _ _ W
  rw [← hm7] at C4
  clear hm7 E1 E2
  generalize Pol.own7 = o7 at *
  have L2 : Hid (∀ W : World, ReadsO (W.alloc (.cells #[.int .i64 5, .string { data := #[0, 0, 0, 7] }] 36)) (.slice (some ⟨W.heap.size, 0, none⟩) 1 1) [(5, [0, 0, 0, 7])]) := Lib.hid fun W => reads_lit W [(5, [0, 0, 0, 7])] _ rfl
  have L3 : Hid (∀ W : World, ReadsO (W.alloc (.cells #[.int .i64 18, .string { data := #[] }] 36)) (.slice (some ⟨W.heap.size, 0, none⟩) 1 1) [(18, [])]) := Lib.hid fun W => reads_lit W [(18, [])] _ rfl
  have L4 : Hid (∀ W : World, ReadsO (W.alloc (.cells #[.int .i64 1, .string { data := #[120, 120] }] 36)) (.slice (some ⟨W.heap.size, 0, none⟩) 1 1) [(1, [120, 120])]) := Lib.hid fun W => reads_lit W [(1, [120, 120])] _ rfl
  have KZ : Hid (∀ W : World, Lnk W.heap.size (W.alloc (.cells #[.int .i64 0, .int .i64 0, .int .i64 0, .bool false, .string { data := #[] }, .int .i64 0] 23)) Pol.zero) := Lib.hid fun W => Lnk.new W Pol.zero
  go_wp2_with (first | (refine step_link rfl _ rfl w.heap.size o7 rfl (by with_reducible first | exact K1.out | exact K2.out | exact K3.out | exact K4.out | exact K9.out) ?_) | (refine step_link rfl _ rfl w5.heap.size m7 rfl (by with_reducible exact N9.out) ?_) | (refine step_link rfl _ rfl w7.heap.size o7 rfl (by with_reducible exact M9.out) ?_) |
    (go_at_call 10; (with_reducible refine (C1.out _ B1.out).mono ?_); rintro e w2 ⟨v2, rfl, r2, hb2⟩; obtain ⟨p2, cap2, rfl⟩ := reads_form r2; have R2 : Hid (ReadsO w2 (.slice p2 2 cap2) [(1, [5, 220]), (5, [0, 0, 0, 7])]) := Lib.hid r2; have K2 := Lib.hid (K1.out.below hb2); have B2 := Lib.hid (bel2 B1.out hb2); clear r2 hb2) |
    (go_at_call 13; (with_reducible refine (C2.out _ _ (B2.out.alloc B2.out.size _) (L2.out w2)).mono ?_); rintro e w3 ⟨v3, rfl, r3, hb3⟩; have hq3 := bel2 ((Below.refl w2.heap.size w2).alloc (Nat.le_refl _) _) hb3; obtain ⟨b3, f3, cap3, rfl⟩ := reads_pos r3 (by decide); have R3 : Hid (ReadsO w3 (.slice (some ⟨b3, f3, none⟩) 1 cap3) [(5, [255, 255, 255, 248])]) := Lib.hid r3; have Q3 := Lib.hid (R2.out.below hq3); have K3 := Lib.hid (K2.out.below hq3); have B3 := Lib.hid (bel2 B2.out hq3); clear r3 hb3 hq3) |
    (go_at_call 13; (with_reducible refine (C3.out _ _ (B3.out.alloc B3.out.size _) (L3.out w3)).mono ?_); rintro e w4 ⟨v4, rfl, r4, hb4⟩; have hq4 := bel2 ((Below.refl w3.heap.size w3).alloc (Nat.le_refl _) _) hb4; have R4 := Lib.hid (R3.out.below hq4); have Q4 := Lib.hid (Q3.out.below hq4); have K4 := Lib.hid (K3.out.below hq4); have B4 := Lib.hid (bel2 B3.out hq4); clear r4 hb4 hq4) |
    (go_at_call 16; (with_reducible refine (C4.out _ _ (B4.out.alloc B4.out.size _) (L4.out w4)).mono ?_); rintro e w5 ⟨rfl, hb5⟩; have hq5 := bel2 ((Below.refl w4.heap.size w4).alloc (Nat.le_refl _) _) hb5; have R5 := Lib.hid (R4.out.below hq5); have Q5 := Lib.hid (Q4.out.below hq5); have K5 := Lib.hid (K4.out.below hq5); have B5 := Lib.hid (bel2 B4.out hq5); clear hb5 hq5) |
    (refine step_keep rfl _ _ rfl w5.heap.size Pol.zero m7 rfl rfl (by with_reducible exact KZ.out w5) ?_; intro w6 n6 g6; have hq6 := kept_new rfl g6; have N6 := Lib.hid n6; have R6 := Lib.hid (R5.out.below hq6); have Q6 := Lib.hid (Q5.out.below hq6); have K6 := Lib.hid (K5.out.below hq6); have B6 := Lib.hid (bel2 B5.out hq6); clear n6 g6 hq6) |
    (go_at_call 12; (with_reducible refine (C5.out _ _ B6.out Q6.out).mono ?_); rintro e w7 ⟨rfl, hb7⟩; have N7 := Lib.hid (N6.out.below hb7); have R7 := Lib.hid (R6.out.below hb7); have K7 := Lib.hid (K6.out.below hb7); have B7 := Lib.hid (bel2 B6.out hb7); clear hb7) |
    (refine step_keep rfl _ _ rfl w7.heap.size Pol.zero o7 rfl rfl (by with_reducible exact KZ.out w7) ?_; intro w8 n8 g8; have hq8 := kept_new rfl g8; have M8 := Lib.hid n8; have N8 := Lib.hid (N7.out.below hq8); have R8 := Lib.hid (R7.out.below hq8); have K8 := Lib.hid (K7.out.below hq8); have B8 := Lib.hid (bel2 B7.out hq8); clear n8 g8 hq8) |
    (go_at_call 10; (with_reducible refine (C6.out _ B8.out).mono ?_); rintro e w9 ⟨v9, rfl, r9, hb9⟩; have M9 := Lib.hid (M8.out.below hb9); have N9 := Lib.hid (N8.out.below hb9); have R9 := R8.out.below hb9; have K9 := Lib.hid (K8.out.below hb9); have B9 := Lib.hid (bel2 B8.out hb9); obtain ⟨d0, d1⟩ := reads_cells R9 0 (by decide); have ix := opt_index b3 f3 1 cap3 0 (by decide); clear r9 hb9 R9) |
    (go_at_call 11; refine (num_any _ _).mono ?_; rintro e w10 ⟨rfl, rfl⟩))
  go_ret
  exact ⟨rfl, B9.out⟩
end Go.Proofs.Ytiadndcodjpijaa.Pl
