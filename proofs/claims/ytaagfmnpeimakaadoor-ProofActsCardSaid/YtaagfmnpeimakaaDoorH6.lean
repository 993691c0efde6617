/-
  Contract of the document's own Chap.
-/
import Derived.Test.YtaagfmnpeimakaaDoorH4
import Derived.Test.YtaagfmnpeimakaaDoorTwo
import Derived.RegionTactic
import Derived.Deep.RegionWith
import Derived.Deep.RegionHeld
namespace Go.Proofs.YtaagfmnpeimakaaDoor.H
open Go.RowKit
set_option maxRecDepth 100000 in
set_option maxHeartbeats 400000 in
theorem rc_low (c i : Int) (v n : List UInt8) (w : World) (h1 : (c == 1) = false) (h2 : (c == 2) = false) (g1 : c < 1) :
    Calls Tryd.prog 37 #[.agg #[.int .i64 c, .int .i64 i, .string ⟨v.toArray⟩, .string ⟨n.toArray⟩]] w fun e w' => e = .returned (.tuple #[.string ⟨#[]⟩, .int .i64 600]) ∧ Below w.heap.size w w' := by
  have HB := Lib.hid ((Below.refl w.heap.size w).alloc (Nat.le_refl _) (.cells #[.int .i64 c, .int .i64 i, .string ⟨v.toArray⟩, .string ⟨n.toArray⟩] 33))
  go_enter Tryd.func37, Tryd.ntmps37
  go_wp2_with fail
  go_ret2
  exact ⟨rfl, HB.out⟩
set_option maxRecDepth 100000 in
set_option maxHeartbeats 400000 in
theorem rc_high (c i : Int) (v n : List UInt8) (w : World) (h1 : (c == 1) = false) (h2 : (c == 2) = false) (g1 : 1 ≤ c) (g2 : 4 < c) :
    Calls Tryd.prog 37 #[.agg #[.int .i64 c, .int .i64 i, .string ⟨v.toArray⟩, .string ⟨n.toArray⟩]] w fun e w' => e = .returned (.tuple #[.string ⟨#[]⟩, .int .i64 600]) ∧ Below w.heap.size w w' := by
  have HB := Lib.hid ((Below.refl w.heap.size w).alloc (Nat.le_refl _) (.cells #[.int .i64 c, .int .i64 i, .string ⟨v.toArray⟩, .string ⟨n.toArray⟩] 33))
  go_enter Tryd.func37, Tryd.ntmps37
  go_wp2_with fail
  go_ret2
  exact ⟨rfl, HB.out⟩
set_option maxRecDepth 100000 in
set_option maxHeartbeats 400000 in
theorem rc_idlow_one (c i : Int) (v n : List UInt8) (w : World) (h1 : (c == 1) = true) (g1 : 1 ≤ c) (g2 : c ≤ 4) (g3 : i < 0) :
    Calls Tryd.prog 37 #[.agg #[.int .i64 c, .int .i64 i, .string ⟨v.toArray⟩, .string ⟨n.toArray⟩]] w fun e w' => e = .returned (.tuple #[.string ⟨#[]⟩, .int .i64 600]) ∧ Below w.heap.size w w' := by
  have HB := Lib.hid ((Below.refl w.heap.size w).alloc (Nat.le_refl _) (.cells #[.int .i64 c, .int .i64 i, .string ⟨v.toArray⟩, .string ⟨n.toArray⟩] 33))
  go_enter Tryd.func37, Tryd.ntmps37
  go_wp2_with fail
  go_ret2
  exact ⟨rfl, HB.out⟩
set_option maxRecDepth 100000 in
set_option maxHeartbeats 400000 in
theorem rc_idhigh_one (c i : Int) (v n : List UInt8) (w : World) (h1 : (c == 1) = true) (g1 : 1 ≤ c) (g2 : c ≤ 4) (g3 : 0 ≤ i) (g4 : 255 < i) :
    Calls Tryd.prog 37 #[.agg #[.int .i64 c, .int .i64 i, .string ⟨v.toArray⟩, .string ⟨n.toArray⟩]] w fun e w' => e = .returned (.tuple #[.string ⟨#[]⟩, .int .i64 600]) ∧ Below w.heap.size w w' := by
  have HB := Lib.hid ((Below.refl w.heap.size w).alloc (Nat.le_refl _) (.cells #[.int .i64 c, .int .i64 i, .string ⟨v.toArray⟩, .string ⟨n.toArray⟩] 33))
  go_enter Tryd.func37, Tryd.ntmps37
  go_wp2_with fail
  go_ret2
  exact ⟨rfl, HB.out⟩
set_option maxRecDepth 100000 in
set_option maxHeartbeats 400000 in
theorem rc_idlow_two (c i : Int) (v n : List UInt8) (w : World) (h1 : (c == 1) = false) (h2 : (c == 2) = true) (g1 : 1 ≤ c) (g2 : c ≤ 4) (g3 : i < 0) :
    Calls Tryd.prog 37 #[.agg #[.int .i64 c, .int .i64 i, .string ⟨v.toArray⟩, .string ⟨n.toArray⟩]] w fun e w' => e = .returned (.tuple #[.string ⟨#[]⟩, .int .i64 600]) ∧ Below w.heap.size w w' := by
  have HB := Lib.hid ((Below.refl w.heap.size w).alloc (Nat.le_refl _) (.cells #[.int .i64 c, .int .i64 i, .string ⟨v.toArray⟩, .string ⟨n.toArray⟩] 33))
  go_enter Tryd.func37, Tryd.ntmps37
  go_wp2_with fail
  go_ret2
  exact ⟨rfl, HB.out⟩
set_option maxRecDepth 100000 in
set_option maxHeartbeats 400000 in
theorem rc_idhigh_two (c i : Int) (v n : List UInt8) (w : World) (h1 : (c == 1) = false) (h2 : (c == 2) = true) (g1 : 1 ≤ c) (g2 : c ≤ 4) (g3 : 0 ≤ i) (g4 : 255 < i) :
    Calls Tryd.prog 37 #[.agg #[.int .i64 c, .int .i64 i, .string ⟨v.toArray⟩, .string ⟨n.toArray⟩]] w fun e w' => e = .returned (.tuple #[.string ⟨#[]⟩, .int .i64 600]) ∧ Below w.heap.size w w' := by
  have HB := Lib.hid ((Below.refl w.heap.size w).alloc (Nat.le_refl _) (.cells #[.int .i64 c, .int .i64 i, .string ⟨v.toArray⟩, .string ⟨n.toArray⟩] 33))
  go_enter Tryd.func37, Tryd.ntmps37
  go_wp2_with fail
  go_ret2
  exact ⟨rfl, HB.out⟩
set_option maxRecDepth 100000 in
set_option maxHeartbeats 400000 in
theorem rc_idlow_none (c i : Int) (v n : List UInt8) (w : World) (h1 : (c == 1) = false) (h2 : (c == 2) = false) (g1 : 1 ≤ c) (g2 : c ≤ 4) (g3 : i < 0) :
    Calls Tryd.prog 37 #[.agg #[.int .i64 c, .int .i64 i, .string ⟨v.toArray⟩, .string ⟨n.toArray⟩]] w fun e w' => e = .returned (.tuple #[.string ⟨#[]⟩, .int .i64 600]) ∧ Below w.heap.size w w' := by
  have HB := Lib.hid ((Below.refl w.heap.size w).alloc (Nat.le_refl _) (.cells #[.int .i64 c, .int .i64 i, .string ⟨v.toArray⟩, .string ⟨n.toArray⟩] 33))
  go_enter Tryd.func37, Tryd.ntmps37
  go_wp2_with fail
  go_ret2
  exact ⟨rfl, HB.out⟩
set_option maxRecDepth 100000 in
set_option maxHeartbeats 400000 in
theorem rc_idhigh_none (c i : Int) (v n : List UInt8) (w : World) (h1 : (c == 1) = false) (h2 : (c == 2) = false) (g1 : 1 ≤ c) (g2 : c ≤ 4) (g3 : 0 ≤ i) (g4 : 255 < i) :
    Calls Tryd.prog 37 #[.agg #[.int .i64 c, .int .i64 i, .string ⟨v.toArray⟩, .string ⟨n.toArray⟩]] w fun e w' => e = .returned (.tuple #[.string ⟨#[]⟩, .int .i64 600]) ∧ Below w.heap.size w w' := by
  have HB := Lib.hid ((Below.refl w.heap.size w).alloc (Nat.le_refl _) (.cells #[.int .i64 c, .int .i64 i, .string ⟨v.toArray⟩, .string ⟨n.toArray⟩] 33))
  go_enter Tryd.func37, Tryd.ntmps37
  go_wp2_with fail
  go_ret2
  exact ⟨rfl, HB.out⟩
set_option maxRecDepth 100000 in
set_option maxHeartbeats 400000 in
theorem rc_empty_one (c i : Int) (v n : List UInt8) (w : World) (h1 : (c == 1) = true) (g1 : 1 ≤ c) (g2 : c ≤ 4) (g3 : 0 ≤ i) (g4 : i ≤ 255) (hv : v.length = 0) :
    Calls Tryd.prog 37 #[.agg #[.int .i64 c, .int .i64 i, .string ⟨v.toArray⟩, .string ⟨n.toArray⟩]] w fun e w' => e = .returned (.tuple #[.string ⟨#[]⟩, .int .i64 600]) ∧ Below w.heap.size w w' := by
  have HB := Lib.hid ((Below.refl w.heap.size w).alloc (Nat.le_refl _) (.cells #[.int .i64 c, .int .i64 i, .string ⟨v.toArray⟩, .string ⟨n.toArray⟩] 33))
  go_enter Tryd.func37, Tryd.ntmps37
  go_wp2_with fail
  go_ret2
  exact ⟨rfl, HB.out⟩
set_option maxRecDepth 100000 in
set_option maxHeartbeats 400000 in
theorem rc_empty_two (c i : Int) (v n : List UInt8) (w : World) (h1 : (c == 1) = false) (h2 : (c == 2) = true) (g1 : 1 ≤ c) (g2 : c ≤ 4) (g3 : 0 ≤ i) (g4 : i ≤ 255) (hv : v.length = 0) :
    Calls Tryd.prog 37 #[.agg #[.int .i64 c, .int .i64 i, .string ⟨v.toArray⟩, .string ⟨n.toArray⟩]] w fun e w' => e = .returned (.tuple #[.string ⟨#[]⟩, .int .i64 600]) ∧ Below w.heap.size w w' := by
  have HB := Lib.hid ((Below.refl w.heap.size w).alloc (Nat.le_refl _) (.cells #[.int .i64 c, .int .i64 i, .string ⟨v.toArray⟩, .string ⟨n.toArray⟩] 33))
  go_enter Tryd.func37, Tryd.ntmps37
  go_wp2_with fail
  go_ret2
  exact ⟨rfl, HB.out⟩
set_option maxRecDepth 100000 in
set_option maxHeartbeats 400000 in
theorem rc_some_none (c i : Int) (v n : List UInt8) (w : World) (h1 : (c == 1) = false) (h2 : (c == 2) = false) (g1 : 1 ≤ c) (g2 : c ≤ 4) (g3 : 0 ≤ i) (g4 : i ≤ 255) (hv : 0 < v.length) :
    Calls Tryd.prog 37 #[.agg #[.int .i64 c, .int .i64 i, .string ⟨v.toArray⟩, .string ⟨n.toArray⟩]] w fun e w' => e = .returned (.tuple #[.string ⟨#[]⟩, .int .i64 600]) ∧ Below w.heap.size w w' := by
  have HB := Lib.hid ((Below.refl w.heap.size w).alloc (Nat.le_refl _) (.cells #[.int .i64 c, .int .i64 i, .string ⟨v.toArray⟩, .string ⟨n.toArray⟩] 33))
  go_enter Tryd.func37, Tryd.ntmps37
  go_wp2_with fail
  go_ret2
  exact ⟨rfl, HB.out⟩
set_option maxRecDepth 100000 in
set_option maxHeartbeats 400000 in
theorem rc_most_one (c i : Int) (v n : List UInt8) (w : World) (h1 : (c == 1) = true) (g1 : 1 ≤ c) (g2 : c ≤ 4) (g3 : 0 ≤ i) (g4 : i ≤ 255) (hv : 0 < v.length) (hv2 : 255 < v.length) :
    Calls Tryd.prog 37 #[.agg #[.int .i64 c, .int .i64 i, .string ⟨v.toArray⟩, .string ⟨n.toArray⟩]] w fun e w' => e = .returned (.tuple #[.string ⟨#[]⟩, .int .i64 600]) ∧ Below w.heap.size w w' := by
  have HB := Lib.hid ((Below.refl w.heap.size w).alloc (Nat.le_refl _) (.cells #[.int .i64 c, .int .i64 i, .string ⟨v.toArray⟩, .string ⟨n.toArray⟩] 33))
  go_enter Tryd.func37, Tryd.ntmps37
  go_wp2_with fail
  go_ret2
  exact ⟨rfl, HB.out⟩
set_option maxRecDepth 100000 in
set_option maxHeartbeats 400000 in
theorem rc_most_two (c i : Int) (v n : List UInt8) (w : World) (h1 : (c == 1) = false) (h2 : (c == 2) = true) (g1 : 1 ≤ c) (g2 : c ≤ 4) (g3 : 0 ≤ i) (g4 : i ≤ 255) (hv : 0 < v.length) (hv2 : 255 < v.length) :
    Calls Tryd.prog 37 #[.agg #[.int .i64 c, .int .i64 i, .string ⟨v.toArray⟩, .string ⟨n.toArray⟩]] w fun e w' => e = .returned (.tuple #[.string ⟨#[]⟩, .int .i64 600]) ∧ Below w.heap.size w w' := by
  have HB := Lib.hid ((Below.refl w.heap.size w).alloc (Nat.le_refl _) (.cells #[.int .i64 c, .int .i64 i, .string ⟨v.toArray⟩, .string ⟨n.toArray⟩] 33))
  go_enter Tryd.func37, Tryd.ntmps37
  go_wp2_with fail
  go_ret2
  exact ⟨rfl, HB.out⟩
set_option maxRecDepth 100000 in
set_option maxHeartbeats 400000 in
theorem rc_long_one (c i : Int) (v n : List UInt8) (w : World) (h1 : (c == 1) = true) (g1 : 1 ≤ c) (g2 : c ≤ 4) (g3 : 0 ≤ i) (g4 : i ≤ 255) (hv : 0 < v.length) (hv2 : v.length ≤ 255) (hn : 253 < n.length) :
    Calls Tryd.prog 37 #[.agg #[.int .i64 c, .int .i64 i, .string ⟨v.toArray⟩, .string ⟨n.toArray⟩]] w fun e w' => e = .returned (.tuple #[.string ⟨#[]⟩, .int .i64 601]) ∧ Below w.heap.size w w' := by
  have HB := Lib.hid ((Below.refl w.heap.size w).alloc (Nat.le_refl _) (.cells #[.int .i64 c, .int .i64 i, .string ⟨v.toArray⟩, .string ⟨n.toArray⟩] 33))
  go_enter Tryd.func37, Tryd.ntmps37
  go_wp2_with fail
  go_ret2
  exact ⟨rfl, HB.out⟩
set_option maxRecDepth 100000 in
set_option maxHeartbeats 400000 in
theorem rc_long_two (c i : Int) (v n : List UInt8) (w : World) (h1 : (c == 1) = false) (h2 : (c == 2) = true) (g1 : 1 ≤ c) (g2 : c ≤ 4) (g3 : 0 ≤ i) (g4 : i ≤ 255) (hv : 0 < v.length) (hv2 : v.length ≤ 255) (hn : 253 < n.length) :
    Calls Tryd.prog 37 #[.agg #[.int .i64 c, .int .i64 i, .string ⟨v.toArray⟩, .string ⟨n.toArray⟩]] w fun e w' => e = .returned (.tuple #[.string ⟨#[]⟩, .int .i64 601]) ∧ Below w.heap.size w w' := by
  have HB := Lib.hid ((Below.refl w.heap.size w).alloc (Nat.le_refl _) (.cells #[.int .i64 c, .int .i64 i, .string ⟨v.toArray⟩, .string ⟨n.toArray⟩] 33))
  go_enter Tryd.func37, Tryd.ntmps37
  go_wp2_with fail
  go_ret2
  exact ⟨rfl, HB.out⟩
set_option maxRecDepth 100000 in
set_option maxHeartbeats 400000 in
theorem rc_long_none (c i : Int) (v n : List UInt8) (w : World) (h1 : (c == 1) = false) (h2 : (c == 2) = false) (g1 : 1 ≤ c) (g2 : c ≤ 4) (g3 : 0 ≤ i) (g4 : i ≤ 255) (hv : v.length = 0) (hn : 253 < n.length) :
    Calls Tryd.prog 37 #[.agg #[.int .i64 c, .int .i64 i, .string ⟨v.toArray⟩, .string ⟨n.toArray⟩]] w fun e w' => e = .returned (.tuple #[.string ⟨#[]⟩, .int .i64 601]) ∧ Below w.heap.size w w' := by
  have HB := Lib.hid ((Below.refl w.heap.size w).alloc (Nat.le_refl _) (.cells #[.int .i64 c, .int .i64 i, .string ⟨v.toArray⟩, .string ⟨n.toArray⟩] 33))
  go_enter Tryd.func37, Tryd.ntmps37
  go_wp2_with fail
  go_ret2
  exact ⟨rfl, HB.out⟩
set_option maxRecDepth 100000 in
set_option maxHeartbeats 1600000 in
theorem rc_good_one (c i : Int) (v n A b T0 A0 U : List UInt8) (w : World) (h1 : (c == 1) = true) (g1 : 1 ≤ c) (g2 : c ≤ 4) (g3 : 0 ≤ i) (g4 : i ≤ 255) (hv : 0 < v.length) (hv2 : v.length ≤ 255) (hn : n.length ≤ 253) (hb : b.length ≤ 509)
    (T : Hid (∀ W, Calls Tryd.prog 46 #[.int .i64 ((b.length : Int) + 4)] W fun e w' => e = .returned (.string ⟨T0.toArray⟩) ∧ Below W.heap.size W w'))
    (p q : UInt8) (hp : (p.toNat : Int) = c) (hq : (q.toNat : Int) = i) (r3 : Sums [UInt8.ofNat v.length] v A) (r4 : Sums A n b) (r1 : Sums [p, q] T0 A0) (r2 : Sums A0 b U) :
    Calls Tryd.prog 37 #[.agg #[.int .i64 c, .int .i64 i, .string ⟨v.toArray⟩, .string ⟨n.toArray⟩]] w fun e w' => e = .returned (.tuple #[.string ⟨U.toArray⟩, .int .i64 0]) ∧ Below w.heap.size w w' := by
  unfold Sums at r1 r2 r3 r4
  have e1 : IntKind.i64.wrap ((b.length : Int) + 4) = (b.length : Int) + 4 := IntWalk.i64_in _ (by omega)
  have e2 : IntKind.u8.wrap c = c := by rw [IntKind.wrap_u8']; omega
  have e3 : IntKind.u8.wrap i = i := by rw [IntKind.wrap_u8']; omega
  have F := fun W B => conv_two W B p q c i hp hq
  obtain ⟨S0, hS0⟩ : ∃ S0, S0 = [p, q] := ⟨_, rfl⟩
  rw [← hS0] at F r1
  clear hp hq hS0
  have F1 := fun (W : World) (C : Obj) => conv_new_at (W.alloc C) (W.heap.size + 1) (by simp) [UInt8.ofNat v.length] _ (one_cell v.length hv2)
  obtain ⟨S1, hS1⟩ : ∃ S1, S1 = [UInt8.ofNat v.length] := ⟨_, rfl⟩
  rw [← hS1, show S1.length = 1 by rw [hS1]; rfl] at F1
  rw [← hS1] at r3
  clear hS1
  have HX := Lib.hid (Box.new w [.int .i64 c, .int .i64 i, .string ⟨v.toArray⟩, .string ⟨n.toArray⟩] 33)
  have HB := Lib.hid ((Below.refl w.heap.size w).alloc (Nat.le_refl _) (.cells #[.int .i64 c, .int .i64 i, .string ⟨v.toArray⟩, .string ⟨n.toArray⟩] 33))
  have K1 := Lib.hid (box2_of HX.out HB.out)
  have K2 := Lib.hid (box2_alloc K1.out (.cells #[.int .u8 (v.length : Int)] 5))
  go_enter Tryd.func37, Tryd.ntmps37
  go_wp2_with fail
  go_region_held (fun a => a.cell? ⟨w.heap.size, 0, none⟩ = some (.int .i64 c) ∧ a.cell? ⟨w.heap.size, 1, none⟩ = some (.int .i64 i) ∧ w.heap.size < a.heap.size ∧ Below w.heap.size w a) (first | assumption | exact K2.out | exact box2_drew K2.out | exact box2_alloc (by assumption) _ | exact box2_kept (by assumption) hb4)
    (first | (go_at_call 46; refine (T.out _).mono ?_; rintro e w4 ⟨rfl, hb4⟩; obtain ⟨hc4, hf4⟩ := bcell hb4))
  all_goals
    rename_i hH
    have H9 := Lib.hid hH
    clear hH
    go_wp2_with fail
    go_ret2
    exact ⟨rfl, H9.out.2.2.2⟩
set_option maxRecDepth 100000 in
set_option maxHeartbeats 1600000 in
theorem rc_good_two (c i : Int) (v n A b T0 A0 U : List UInt8) (w : World) (h1 : (c == 1) = false) (h2 : (c == 2) = true) (g1 : 1 ≤ c) (g2 : c ≤ 4) (g3 : 0 ≤ i) (g4 : i ≤ 255) (hv : 0 < v.length) (hv2 : v.length ≤ 255) (hn : n.length ≤ 253) (hb : b.length ≤ 509)
    (T : Hid (∀ W, Calls Tryd.prog 46 #[.int .i64 ((b.length : Int) + 4)] W fun e w' => e = .returned (.string ⟨T0.toArray⟩) ∧ Below W.heap.size W w'))
    (p q : UInt8) (hp : (p.toNat : Int) = c) (hq : (q.toNat : Int) = i) (r3 : Sums [UInt8.ofNat v.length] v A) (r4 : Sums A n b) (r1 : Sums [p, q] T0 A0) (r2 : Sums A0 b U) :
    Calls Tryd.prog 37 #[.agg #[.int .i64 c, .int .i64 i, .string ⟨v.toArray⟩, .string ⟨n.toArray⟩]] w fun e w' => e = .returned (.tuple #[.string ⟨U.toArray⟩, .int .i64 0]) ∧ Below w.heap.size w w' := by
  unfold Sums at r1 r2 r3 r4
  have e1 : IntKind.i64.wrap ((b.length : Int) + 4) = (b.length : Int) + 4 := IntWalk.i64_in _ (by omega)
  have e2 : IntKind.u8.wrap c = c := by rw [IntKind.wrap_u8']; omega
  have e3 : IntKind.u8.wrap i = i := by rw [IntKind.wrap_u8']; omega
  have F := fun W B => conv_two W B p q c i hp hq
  obtain ⟨S0, hS0⟩ : ∃ S0, S0 = [p, q] := ⟨_, rfl⟩
  rw [← hS0] at F r1
  clear hp hq hS0
  have F1 := fun (W : World) (C : Obj) => conv_new_at (W.alloc C) (W.heap.size + 1) (by simp) [UInt8.ofNat v.length] _ (one_cell v.length hv2)
  obtain ⟨S1, hS1⟩ : ∃ S1, S1 = [UInt8.ofNat v.length] := ⟨_, rfl⟩
  rw [← hS1, show S1.length = 1 by rw [hS1]; rfl] at F1
  rw [← hS1] at r3
  clear hS1
  have HX := Lib.hid (Box.new w [.int .i64 c, .int .i64 i, .string ⟨v.toArray⟩, .string ⟨n.toArray⟩] 33)
  have HB := Lib.hid ((Below.refl w.heap.size w).alloc (Nat.le_refl _) (.cells #[.int .i64 c, .int .i64 i, .string ⟨v.toArray⟩, .string ⟨n.toArray⟩] 33))
  have K1 := Lib.hid (box2_of HX.out HB.out)
  have K2 := Lib.hid (box2_alloc K1.out (.cells #[.int .u8 (v.length : Int)] 5))
  go_enter Tryd.func37, Tryd.ntmps37
  go_wp2_with fail
  go_region_held (fun a => a.cell? ⟨w.heap.size, 0, none⟩ = some (.int .i64 c) ∧ a.cell? ⟨w.heap.size, 1, none⟩ = some (.int .i64 i) ∧ w.heap.size < a.heap.size ∧ Below w.heap.size w a) (first | assumption | exact K2.out | exact box2_drew K2.out | exact box2_alloc (by assumption) _ | exact box2_kept (by assumption) hb4)
    (first | (go_at_call 46; refine (T.out _).mono ?_; rintro e w4 ⟨rfl, hb4⟩; obtain ⟨hc4, hf4⟩ := bcell hb4))
  all_goals
    rename_i hH
    have H9 := Lib.hid hH
    clear hH
    go_wp2_with fail
    go_ret2
    exact ⟨rfl, H9.out.2.2.2⟩
set_option maxRecDepth 100000 in
set_option maxHeartbeats 1600000 in
theorem rc_good_none (c i : Int) (v n T0 A0 U : List UInt8) (w : World) (h1 : (c == 1) = false) (h2 : (c == 2) = false) (g1 : 1 ≤ c) (g2 : c ≤ 4) (g3 : 0 ≤ i) (g4 : i ≤ 255) (hv : v.length = 0) (hn : n.length ≤ 253) 
    (T : Hid (∀ W, Calls Tryd.prog 46 #[.int .i64 ((n.length : Int) + 4)] W fun e w' => e = .returned (.string ⟨T0.toArray⟩) ∧ Below W.heap.size W w'))
    (p q : UInt8) (hp : (p.toNat : Int) = c) (hq : (q.toNat : Int) = i) (r1 : Sums [p, q] T0 A0) (r2 : Sums A0 n U) :
    Calls Tryd.prog 37 #[.agg #[.int .i64 c, .int .i64 i, .string ⟨v.toArray⟩, .string ⟨n.toArray⟩]] w fun e w' => e = .returned (.tuple #[.string ⟨U.toArray⟩, .int .i64 0]) ∧ Below w.heap.size w w' := by
  unfold Sums at r1 r2
  have e1 : IntKind.i64.wrap ((n.length : Int) + 4) = (n.length : Int) + 4 := IntWalk.i64_in _ (by omega)
  have e2 : IntKind.u8.wrap c = c := by rw [IntKind.wrap_u8']; omega
  have e3 : IntKind.u8.wrap i = i := by rw [IntKind.wrap_u8']; omega
  have F := fun W B => conv_two W B p q c i hp hq
  obtain ⟨S0, hS0⟩ : ∃ S0, S0 = [p, q] := ⟨_, rfl⟩
  rw [← hS0] at F r1
  clear hp hq hS0
  have HX := Lib.hid (Box.new w [.int .i64 c, .int .i64 i, .string ⟨v.toArray⟩, .string ⟨n.toArray⟩] 33)
  have HB := Lib.hid ((Below.refl w.heap.size w).alloc (Nat.le_refl _) (.cells #[.int .i64 c, .int .i64 i, .string ⟨v.toArray⟩, .string ⟨n.toArray⟩] 33))
  have K1 := Lib.hid (box2_of HX.out HB.out)
  have K2 := Lib.hid (K1.out)
  go_enter Tryd.func37, Tryd.ntmps37
  go_wp2_with fail
  go_region_held (fun a => a.cell? ⟨w.heap.size, 0, none⟩ = some (.int .i64 c) ∧ a.cell? ⟨w.heap.size, 1, none⟩ = some (.int .i64 i) ∧ w.heap.size < a.heap.size ∧ Below w.heap.size w a) (first | assumption | exact K2.out | exact box2_drew K2.out | exact box2_alloc (by assumption) _ | exact box2_kept (by assumption) hb4)
    (first | (go_at_call 46; refine (T.out _).mono ?_; rintro e w4 ⟨rfl, hb4⟩; obtain ⟨hc4, hf4⟩ := bcell hb4))
  all_goals
    rename_i hH
    have H9 := Lib.hid hH
    clear hH
    go_wp2_with fail
    go_ret2
    exact ⟨rfl, H9.out.2.2.2⟩
theorem head_two (c i : Int) (n : Nat) : Chp.head c i n = [UInt8.ofNat c.toNat, UInt8.ofNat i.toNat] ++ two n := rfl
/-- The contract of the document's own Chap. -/
theorem rchap_any (c i : Int) (v n : List UInt8) (w : World) (_ : v.length ≤ 4611686018427387904) (_ : n.length ≤ 4611686018427387904) :
    Calls Tryd.prog 37 #[.agg #[.int .i64 c, .int .i64 i, .string ⟨v.toArray⟩, .string ⟨n.toArray⟩]] w fun e w' => e = .returned (.tuple #[.string ⟨(Chp.put (c, i, v, n)).toArray⟩, .int .i64 (Chp.code (c, i, v, n))]) ∧ Below w.heap.size w w' := by
  have three : ((c == 1) = true ∧ Chp.val c = true) ∨ ((c == 1) = false ∧ (c == 2) = true ∧ Chp.val c = true) ∨ ((c == 1) = false ∧ (c == 2) = false ∧ Chp.val c = false) := by
    by_cases h1 : c = 1
    · subst h1; exact .inl ⟨rfl, rfl⟩
    · by_cases h2 : c = 2
      · subst h2; exact .inr (.inl ⟨rfl, rfl, rfl⟩)
      · exact .inr (.inr ⟨by simpa using h1, by simpa using h2, by simp [Chp.val, h1, h2]⟩)
  rcases Chp.code_ways c i v n with ⟨h1, e⟩ | ⟨h1, h2, e⟩ | ⟨h1, h2, h3, e⟩ | ⟨h1, h2, h3, h4, e⟩ | ⟨h1, h2, h3, h4, e⟩
  · rw [Chp.put_bad _ (by omega), e]
    have g := kind_out c h1
    have n1 : (c == 1) = false := by rw [beq_eq_false_iff_ne]; omega
    have n2 : (c == 2) = false := by rw [beq_eq_false_iff_ne]; omega
    by_cases g1 : c < 1
    · exact rc_low c i v n w n1 n2 g1
    · exact rc_high c i v n w n1 n2 (by omega) (by omega)
  · rw [Chp.put_bad _ (by omega), e]
    obtain ⟨g1, g2⟩ := kind_in c h1
    have g := byte_out i h2
    by_cases g3 : i < 0
    · rcases three with ⟨a, _⟩ | ⟨a, b, _⟩ | ⟨a, b, _⟩
      · exact rc_idlow_one c i v n w a g1 g2 g3
      · exact rc_idlow_two c i v n w a b g1 g2 g3
      · exact rc_idlow_none c i v n w a b g1 g2 g3
    · rcases three with ⟨a, _⟩ | ⟨a, b, _⟩ | ⟨a, b, _⟩
      · exact rc_idhigh_one c i v n w a g1 g2 (by omega) (by omega)
      · exact rc_idhigh_two c i v n w a b g1 g2 (by omega) (by omega)
      · exact rc_idhigh_none c i v n w a b g1 g2 (by omega) (by omega)
  · rw [Chp.put_bad _ (by omega), e]
    obtain ⟨g1, g2⟩ := kind_in c h1
    obtain ⟨g3, g4⟩ := byte_in i h2
    unfold Chp.holds at h3
    rcases three with ⟨a, x⟩ | ⟨a, b, x⟩ | ⟨a, b, x⟩
    · rw [x, if_pos rfl, Bool.and_eq_false_iff, decide_eq_false_iff_not, decide_eq_false_iff_not] at h3
      by_cases hv : v.length = 0
      · exact rc_empty_one c i v n w a g1 g2 g3 g4 hv
      · exact rc_most_one c i v n w a g1 g2 g3 g4 (by omega) (by omega)
    · rw [x, if_pos rfl, Bool.and_eq_false_iff, decide_eq_false_iff_not, decide_eq_false_iff_not] at h3
      by_cases hv : v.length = 0
      · exact rc_empty_two c i v n w a b g1 g2 g3 g4 hv
      · exact rc_most_two c i v n w a b g1 g2 g3 g4 (by omega) (by omega)
    · rw [x, if_neg (by simp)] at h3
      refine rc_some_none c i v n w a b g1 g2 g3 g4 ?_
      cases v with
      | nil => simp at h3
      | cons _ _ => simp
  · rw [Chp.put_bad _ (by omega), e]
    obtain ⟨g1, g2⟩ := kind_in c h1
    obtain ⟨g3, g4⟩ := byte_in i h2
    rcases three with ⟨a, x⟩ | ⟨a, b, x⟩ | ⟨a, b, x⟩
    · have := Chp.holds_val c v h3 x
      exact rc_long_one c i v n w a g1 g2 g3 g4 (by omega) (by omega) h4
    · have := Chp.holds_val c v h3 x
      exact rc_long_two c i v n w a b g1 g2 g3 g4 (by omega) (by omega) h4
    · have := Chp.holds_none c v h3 x
      exact rc_long_none c i v n w a b g1 g2 g3 g4 (by rw [this]; rfl) h4
  · have hlen := Chp.body_len _ e
    rw [Chp.put_good _ e, e]
    unfold Chp.wire
    rw [head_two, List.append_assoc]
    obtain ⟨g1, g2⟩ := kind_in c h1
    obtain ⟨g3, g4⟩ := byte_in i h2
    have tl : ∀ k, (two k).length = 2 := fun _ => rfl
    have p1 := Chp.byte_ofNat c (Chp.kind_byte c h1)
    have p2 := Chp.byte_ofNat i h2
    have T := fun W => two_any ((Chp.body (c, i, v, n)).length + 4) W (by omega)
    rw [show (((Chp.body (c, i, v, n)).length + 4 : Nat) : Int) = ((Chp.body (c, i, v, n)).length : Int) + 4 by omega] at T
    have r1 := sums [UInt8.ofNat c.toNat, UInt8.ofNat i.toNat] (two ((Chp.body (c, i, v, n)).length + 4)) (by rw [tl]; simp)
    have r2 := sums ([UInt8.ofNat c.toNat, UInt8.ofNat i.toNat] ++ two ((Chp.body (c, i, v, n)).length + 4)) (Chp.body (c, i, v, n)) (by rw [List.length_append, tl]; simp; omega)
    rw [List.append_assoc] at r2
    dsimp only at *
    rcases three with ⟨a, x⟩ | ⟨a, b, x⟩ | ⟨a, b, x⟩
    · have hv := Chp.holds_val c v h3 x
      have eb : Chp.body (c, i, v, n) = UInt8.ofNat v.length :: (v ++ n) := by unfold Chp.body; exact if_pos x
      rw [eb] at hlen T r1 r2 ⊢
      exact rc_good_one c i v n (UInt8.ofNat v.length :: v) _ _ _ _ w a g1 g2 g3 g4 (by omega) (by omega) h4 hlen (Lib.hid T) _ _ p1 p2 (sums [_] _ (by simp; omega)) (sums (_ :: v) n (by simp; omega)) r1 r2
    · have hv := Chp.holds_val c v h3 x
      have eb : Chp.body (c, i, v, n) = UInt8.ofNat v.length :: (v ++ n) := by unfold Chp.body; exact if_pos x
      rw [eb] at hlen T r1 r2 ⊢
      exact rc_good_two c i v n (UInt8.ofNat v.length :: v) _ _ _ _ w a b g1 g2 g3 g4 (by omega) (by omega) h4 hlen (Lib.hid T) _ _ p1 p2 (sums [_] _ (by simp; omega)) (sums (_ :: v) n (by simp; omega)) r1 r2
    · have hv := Chp.holds_none c v h3 x
      have eb : Chp.body (c, i, v, n) = n := by unfold Chp.body; exact if_neg (by rw [x]; simp)
      rw [eb] at T r1 r2 ⊢
      exact rc_good_none c i v n _ _ _ w a b g1 g2 g3 g4 (by rw [hv]; rfl) h4 (Lib.hid T) _ _ p1 p2 r1 r2
end Go.Proofs.YtaagfmnpeimakaaDoor.H
