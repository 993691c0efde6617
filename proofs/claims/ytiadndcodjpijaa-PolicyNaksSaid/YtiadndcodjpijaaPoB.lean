/-
  The walk of the law of what is learnt again.
-/
import Derived.Test.YtiadndcodjpijaaPoA
import Derived.Test.YtiadndcodjpijaaPoMath3
import Derived.Test.YtiadndcodjpijaaPl1
namespace Go.Proofs.Ytiadndcodjpijaa.Pl
open Go.RowKit
theorem kz (W : World) : Lnk W.heap.size (W.alloc (.cells #[.int .i64 0, .int .i64 0, .int .i64 0, .bool false, .string { data := #[] }, .int .i64 0] 23)) Pol.zero := Lnk.new W Pol.zero
set_option maxHeartbeats 1600000 in
set_option maxRecDepth 100000 in
theorem once_good (a b : Pol.Lk) (nak : Bool) (code : Int) (hc : (nak = true ∧ code = 3) ∨ (nak = false ∧ code = 4)) (v : Value) (os : List Pol.Op) (w : World) (PO : Hid (PolOk w)) (R : Hid (ReadsO w v os))
    (L1 : Hid (∀ W, Below w.heap.size w W → ReadsO W v os → Calls Try.prog 16 #[lv a, .int .i64 code, v] W fun e w' => e = .returned (.tuple #[lv b, .int .i64 0]) ∧ Below W.heap.size W w'))
    (L2 : Hid (∀ W, Below w.heap.size w W → ReadsO W v os → Calls Try.prog 16 #[lv b, .int .i64 code, v] W fun e w' => e = .returned (.tuple #[lv b, .int .i64 0]) ∧ Below W.heap.size W w'))
    (L3 : Hid (∀ W, Below w.heap.size w W → Calls Try.prog 16 #[lv a, .int .i64 code, .slice none 0 0] W fun e w' => e = .returned (.tuple #[lv a, .int .i64 0]) ∧ Below W.heap.size W w'))
    (MB : Hid (∀ W, Calls Try.prog 14 #[lv b] W fun e w' => e = .returned (.bool true) ∧ Below W.heap.size W w')) :
    Calls Try.prog 8 #[.agg (lcs a).toArray, .bool nak, v] w fun e w' => e = .returned (.bool true) ∧ Below w.heap.size w w' := by
  have K1 := Lib.hid (Lnk.new w a)
  have B1 := Lib.hid ((Below.refl w.heap.size w).alloc (Nat.le_refl _) (.cells (lcs a).toArray 23))
  have e1 : ∀ W : World, (binOp .eql 23 (lv b) (lv b)).run Try.prog W = .ok (.bool true) W := by have h := (eqL_any b b).2.2; simpa using h
  have e2 : ∀ W : World, (binOp .eql 23 (lv a) (lv a)).run Try.prog W = .ok (.bool true) W := by have h := (eqL_any a a).2.2; simpa using h
  have g1 := fun op x y W => guard_lv op x y b b W
  have g2 := fun op x y W => guard_lv op x y a a W
  rcases hc with ⟨rfl, rfl⟩ | ⟨rfl, rfl⟩
  all_goals
    go_enter Try.func8, Try.ntmps8
    go_wp2_with (first | (refine step_link rfl _ rfl w.heap.size a rfl (by with_reducible first | exact K2.out | exact K6.out | exact K8.out) ?_) | (refine step_link rfl _ rfl w3.heap.size b rfl (by with_reducible first | exact N4.out | exact N8.out) ?_) | (refine step_link rfl _ rfl w5.heap.size b rfl (by with_reducible exact M8.out) ?_) | (refine step_link rfl _ rfl w7.heap.size a rfl (by with_reducible exact D8.out) ?_) |
      (go_at_call 9; (refine (awake_any _ (Lib.hid (PO.out.later B1.out))).mono ?_); rintro e w2 ⟨rfl, hb2⟩; have K2 := Lib.hid (K1.out.below hb2); have B2 := Lib.hid (bel2 B1.out hb2); have R2 := Lib.hid (R.out.below B2.out); clear hb2) |
      (go_at_call 16; (with_reducible refine (L1.out _ B2.out R2.out).mono ?_); rintro e w3 ⟨rfl, hb3⟩; have K3 := Lib.hid (K2.out.below hb3); have B3 := Lib.hid (bel2 B2.out hb3); have R3 := Lib.hid (R2.out.below hb3); clear hb3) |
      (refine step_keep rfl _ _ rfl w3.heap.size Pol.zero b rfl rfl (by with_reducible exact kz w3) ?_; intro w4 n4 g4; have hq4 := kept_new rfl g4; have N4 := Lib.hid n4; have K4 := Lib.hid (K3.out.below hq4); have B4 := Lib.hid (bel2 B3.out hq4); have R4 := Lib.hid (R3.out.below hq4); clear n4 g4 hq4) |
      (go_at_call 16; (with_reducible refine (L2.out _ B4.out R4.out).mono ?_); rintro e w5 ⟨rfl, hb5⟩; have N5 := Lib.hid (N4.out.below hb5); have K5 := Lib.hid (K4.out.below hb5); have B5 := Lib.hid (bel2 B4.out hb5); clear hb5) |
      (refine step_keep rfl _ _ rfl w5.heap.size Pol.zero b rfl rfl (by with_reducible exact kz w5) ?_; intro w6 n6 g6; have hq6 := kept_new rfl g6; have M6 := Lib.hid n6; have N6 := Lib.hid (N5.out.below hq6); have K6 := Lib.hid (K5.out.below hq6); have B6 := Lib.hid (bel2 B5.out hq6); clear n6 g6 hq6) |
      (go_at_call 16; (with_reducible refine (L3.out _ B6.out).mono ?_); rintro e w7 ⟨rfl, hb7⟩; have M7 := Lib.hid (M6.out.below hb7); have N7 := Lib.hid (N6.out.below hb7); have K7 := Lib.hid (K6.out.below hb7); have B7 := Lib.hid (bel2 B6.out hb7); clear hb7) |
      (refine step_keep rfl _ _ rfl w7.heap.size Pol.zero a rfl rfl (by with_reducible exact kz w7) ?_; intro w8 n8 g8; have hq8 := kept_new rfl g8; have D8 := Lib.hid n8; have M8 := Lib.hid (M7.out.below hq8); have N8 := Lib.hid (N7.out.below hq8); have K8 := Lib.hid (K7.out.below hq8); have B8 := Lib.hid (bel2 B7.out hq8); clear n8 g8 hq8) |
      (go_at_call 14; (with_reducible refine (MB.out _).mono ?_); rintro e w9 ⟨rfl, hb9⟩; have B9 := Lib.hid (bel2 B8.out hb9); clear hb9) |
      (go_at_call 11; (refine (num_any _ _).mono ?_); rintro e w10 ⟨rfl, rfl⟩))
    go_ret
    exact ⟨rfl, B9.out⟩
set_option maxHeartbeats 1600000 in
set_option maxRecDepth 100000 in
theorem once_bad (a : Pol.Lk) (nak : Bool) (code : Int) (hc : (nak = true ∧ code = 3) ∨ (nak = false ∧ code = 4)) (v : Value) (os : List Pol.Op) (w : World) (PO : Hid (PolOk w)) (R : Hid (ReadsO w v os))
    (L1 : Hid (∀ W, Below w.heap.size w W → ReadsO W v os → Calls Try.prog 16 #[lv a, .int .i64 code, v] W fun e w' => e = .returned (.tuple #[lv Pol.zero, .int .i64 1400]) ∧ Below W.heap.size W w'))
    (MB : Hid (∀ W, Calls Try.prog 14 #[lv a] W fun e w' => e = .returned (.bool false) ∧ Below W.heap.size W w')) :
    Calls Try.prog 8 #[.agg (lcs a).toArray, .bool nak, v] w fun e w' => e = .returned (.bool true) ∧ Below w.heap.size w w' := by
  have K1 := Lib.hid (Lnk.new w a)
  have B1 := Lib.hid ((Below.refl w.heap.size w).alloc (Nat.le_refl _) (.cells (lcs a).toArray 23))
  obtain ⟨z, hz⟩ : ∃ z : Pol.Lk, z = Pol.zero := ⟨_, rfl⟩
  have e1 : ∀ W : World, (binOp .eql 23 (lv z) (.agg #[.int .i64 0, .int .i64 0, .int .i64 0, .bool false, .string ⟨#[]⟩, .int .i64 0])).run Try.prog W = .ok (.bool true) W := by have h := (eqL_any Pol.zero Pol.zero).2.2; rw [decide_eq_true rfl] at h; rw [hz]; exact h
  have g1 : ∀ op x y (W : World), (eqGuard op 23 x y (lv z) (.agg #[.int .i64 0, .int .i64 0, .int .i64 0, .bool false, .string ⟨#[]⟩, .int .i64 0])).run Try.prog W = .ok () W := fun op x y W => guard_lv op x y z Pol.zero W
  rw [← hz] at L1
  clear hz
  rcases hc with ⟨rfl, rfl⟩ | ⟨rfl, rfl⟩
  all_goals
    go_enter Try.func8, Try.ntmps8
    go_wp2_with (first | (refine step_link rfl _ rfl w.heap.size a rfl (by with_reducible first | exact K2.out | exact K4.out) ?_) | (refine step_link rfl _ rfl w3.heap.size z rfl (by with_reducible first | exact N5.out) ?_) |
      (go_at_call 9; (refine (awake_any _ (Lib.hid (PO.out.later B1.out))).mono ?_); rintro e w2 ⟨rfl, hb2⟩; have K2 := Lib.hid (K1.out.below hb2); have B2 := Lib.hid (bel2 B1.out hb2); have R2 := Lib.hid (R.out.below B2.out); clear hb2) |
      (go_at_call 16; (with_reducible refine (L1.out _ B2.out R2.out).mono ?_); rintro e w3 ⟨rfl, hb3⟩; have K3 := Lib.hid (K2.out.below hb3); have B3 := Lib.hid (bel2 B2.out hb3); clear hb3) |
      (refine step_keep rfl _ _ rfl w3.heap.size Pol.zero z rfl rfl (by with_reducible exact kz w3) ?_; intro w4 n4 g4; have hq4 := kept_new rfl g4; have N4 := Lib.hid n4; have K4 := Lib.hid (K3.out.below hq4); have B4 := Lib.hid (bel2 B3.out hq4); clear n4 g4 hq4) |
      (go_at_call 14; (with_reducible refine (MB.out _).mono ?_); rintro e w5 ⟨rfl, hb5⟩; have N5 := Lib.hid (N4.out.below hb5); have B5 := Lib.hid (bel2 B4.out hb5); clear hb5) |
      (go_at_call 11; (refine (num_any _ _).mono ?_); rintro e w10 ⟨rfl, rfl⟩))
    go_ret
    exact ⟨rfl, B5.out⟩
theorem walk_once (a : Pol.Lk) (nak : Bool) (v : Value) (os : List Pol.Op) (w : World) (PO : PolOk w) (hr : ReadsO w v os) (hl : os.length * 24 ≤ 140737488351232) (hd : ∀ o ∈ os, o.2.length ≤ 140737488351232) :
    Calls Try.prog 8 #[lv a, .bool nak, v] w fun e w' => e = .returned (.bool true) ∧ Below w.heap.size w w' := by
  obtain ⟨code, hc⟩ : ∃ code : Int, (nak = true ∧ code = 3) ∨ (nak = false ∧ code = 4) := by
    cases nak
    · exact ⟨4, .inr ⟨rfl, rfl⟩⟩
    · exact ⟨3, .inl ⟨rfl, rfl⟩⟩
  have hc2 : code = 3 ∨ code = 4 := by omega
  have hlearn : ∀ (l : Pol.Lk) (xs : List Pol.Op), Pol.may l = true → Pol.learn nm l code xs = (Pol.learns nm code l xs, 0) := fun l xs h => by
    unfold Pol.learn
    rw [h]
    rcases hc2 with rfl | rfl <;> rfl
  by_cases hm : Pol.may a = true
  · have hb := Pol.may_learns code hc2 os a hm
    refine once_good a (Pol.learns nm code a os) nak code hc v os w (Lib.hid PO) (Lib.hid hr) (Lib.hid fun W k r => ?_) (Lib.hid fun W k r => ?_) (Lib.hid fun W k => ?_) (Lib.hid fun W => ?_)
    · have h := PO.learn a code v os W k r hl hd
      rwa [hlearn a os hm] at h
    · have h := PO.learn (Pol.learns nm code a os) code v os W k r hl hd
      rwa [hlearn _ os hb, Pol.learns_again code hc2] at h
    · have h := PO.learn a code (.slice none 0 0) [] W k (reads_nil W) (by simp) (by simp)
      rwa [hlearn a [] hm] at h
    · have h := may_any (Pol.learns nm code a os) W
      rwa [hb] at h
  · have hm2 : Pol.may a = false := by simpa using hm
    refine once_bad a nak code hc v os w (Lib.hid PO) (Lib.hid hr) (Lib.hid fun W k r => ?_) (Lib.hid fun W => ?_)
    · have h := PO.learn a code v os W k r hl hd
      have e : Pol.learn nm a code os = (Pol.zero, 1400) := by unfold Pol.learn; rw [hm2]; rfl
      rwa [e] at h
    · have h := may_any a W
      rwa [hm2] at h
end Go.Proofs.Ytiadndcodjpijaa.Pl
