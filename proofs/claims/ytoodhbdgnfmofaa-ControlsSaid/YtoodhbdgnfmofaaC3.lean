/-
  Contract of the document's own Control.
-/
import Derived.Test.YtoodhbdgnfmofaaC2
import Derived.RegionTactic
import Derived.Deep.RegionWith
import Derived.Deep.RegionHeld3
import Derived.BigRegion
namespace Go.Proofs.Ytoodhbdgnfmofaa.C
open Go.RowKit
theorem box2_kept {B : Nat} {w a b : World} {x y : Value} (h : a.cell? ⟨B, 0, none⟩ = some x ∧ a.cell? ⟨B, 1, none⟩ = some y ∧ B < a.heap.size ∧ Below w.heap.size w a) (k : Below a.heap.size a b) :
    b.cell? ⟨B, 0, none⟩ = some x ∧ b.cell? ⟨B, 1, none⟩ = some y ∧ B < b.heap.size ∧ Below w.heap.size w b := by
  obtain ⟨h1, h2, h3, h4⟩ := h
  exact ⟨(k.cell (p := ⟨B, 0, none⟩) h3).trans h1, (k.cell (p := ⟨B, 1, none⟩) h3).trans h2, Nat.lt_of_lt_of_le h3 k.size, bel2 h4 k⟩
theorem box2_drew {B : Nat} {w a : World} {x y : Value} (h : a.cell? ⟨B, 0, none⟩ = some x ∧ a.cell? ⟨B, 1, none⟩ = some y ∧ B < a.heap.size ∧ Below w.heap.size w a) :
    a.drew.cell? ⟨B, 0, none⟩ = some x ∧ a.drew.cell? ⟨B, 1, none⟩ = some y ∧ B < a.drew.heap.size ∧ Below w.heap.size w a.drew := ⟨h.1, h.2.1, h.2.2.1, h.2.2.2.drew⟩
theorem box2_alloc {B : Nat} {w a : World} {x y : Value} (h : a.cell? ⟨B, 0, none⟩ = some x ∧ a.cell? ⟨B, 1, none⟩ = some y ∧ B < a.heap.size ∧ Below w.heap.size w a) (o : Obj) :
    (a.alloc o).cell? ⟨B, 0, none⟩ = some x ∧ (a.alloc o).cell? ⟨B, 1, none⟩ = some y ∧ B < (a.alloc o).heap.size ∧ Below w.heap.size w (a.alloc o) := box2_kept h ((Below.refl _ a).alloc (Nat.le_refl _) o)
/-- Two bytes, wherever they lie, as a string. -/
theorem conv_two (W : World) (B : Nat) (p q : UInt8) (x y : Int) (hx : (p.toNat : Int) = x) (hy : (q.toNat : Int) = y)
    (h0 : W.cell? ⟨B, 0, none⟩ = some (.int .u8 x)) (h1 : W.cell? ⟨B, 1, none⟩ = some (.int .u8 y)) :
    (convert 41 9 (.slice (some ⟨B, 0, none⟩) 2 2)).run Try.prog W = .ok (.string { data := [p, q].toArray }) W := by
  refine run_convert_bytes_back W 41 9 5 ⟨B, 0, none⟩ 2 [p, q] Try.underlying41 Try.underlying5 Try.underlying9 ?_
  intro j hj
  rw [box_add]
  match j, hj with
  | 0, _ => rw [h0, ← hx]; rfl
  | 1, _ => rw [h1, ← hy]; rfl
set_option maxHeartbeats 400000 in
theorem rc_low (c i : Int) (v : Value) (d : List UInt8) (w : World) (h1 : c < 0) :
    Calls Try.prog 10 #[.agg #[.int .i64 c, .int .i64 i, v, .string ⟨d.toArray⟩]] w fun e w' => e = .returned (.tuple #[.string ⟨#[]⟩, .int .i64 501]) ∧ Below w.heap.size w w' := by
  have HB := Lib.hid ((Below.refl w.heap.size w).alloc (Nat.le_refl _) (.cells #[.int .i64 c, .int .i64 i, v, .string ⟨d.toArray⟩] 24))
  go_enter Try.func10, Try.ntmps10
  go_wp2_with fail
  go_ret2
  exact ⟨rfl, HB.out⟩
set_option maxHeartbeats 400000 in
theorem rc_high (c i : Int) (v : Value) (d : List UInt8) (w : World) (h1 : 255 < c) :
    Calls Try.prog 10 #[.agg #[.int .i64 c, .int .i64 i, v, .string ⟨d.toArray⟩]] w fun e w' => e = .returned (.tuple #[.string ⟨#[]⟩, .int .i64 501]) ∧ Below w.heap.size w w' := by
  have HB := Lib.hid ((Below.refl w.heap.size w).alloc (Nat.le_refl _) (.cells #[.int .i64 c, .int .i64 i, v, .string ⟨d.toArray⟩] 24))
  go_enter Try.func10, Try.ntmps10
  go_wp2_with fail
  go_ret2
  exact ⟨rfl, HB.out⟩
set_option maxHeartbeats 400000 in
theorem rc_low2 (c i : Int) (v : Value) (d : List UInt8) (w : World) (h1 : 0 ≤ c) (h2 : c ≤ 255) (h3 : i < 0) :
    Calls Try.prog 10 #[.agg #[.int .i64 c, .int .i64 i, v, .string ⟨d.toArray⟩]] w fun e w' => e = .returned (.tuple #[.string ⟨#[]⟩, .int .i64 501]) ∧ Below w.heap.size w w' := by
  have HB := Lib.hid ((Below.refl w.heap.size w).alloc (Nat.le_refl _) (.cells #[.int .i64 c, .int .i64 i, v, .string ⟨d.toArray⟩] 24))
  go_enter Try.func10, Try.ntmps10
  go_wp2_with fail
  go_ret2
  exact ⟨rfl, HB.out⟩
set_option maxHeartbeats 400000 in
theorem rc_high2 (c i : Int) (v : Value) (d : List UInt8) (w : World) (h1 : 0 ≤ c) (h2 : c ≤ 255) (h3 : 255 < i) :
    Calls Try.prog 10 #[.agg #[.int .i64 c, .int .i64 i, v, .string ⟨d.toArray⟩]] w fun e w' => e = .returned (.tuple #[.string ⟨#[]⟩, .int .i64 501]) ∧ Below w.heap.size w w' := by
  have HB := Lib.hid ((Below.refl w.heap.size w).alloc (Nat.le_refl _) (.cells #[.int .i64 c, .int .i64 i, v, .string ⟨d.toArray⟩] 24))
  go_enter Try.func10, Try.ntmps10
  go_wp2_with fail
  go_ret2
  exact ⟨rfl, HB.out⟩
set_option maxHeartbeats 400000 in
theorem rc_opts (c i : Int) (v : Value) (t d : List UInt8) (k : Int) (w : World) (h3 : 0 ≤ i) (h4 : i ≤ 255) (g1 : 1 ≤ c) (g2 : c ≤ 4) (hk : k ≠ 0)
    (P : Hid (∀ W, Below w.heap.size w W → Calls Try.prog 18 #[v] W fun e w' => e = .returned (.tuple #[.string ⟨t.toArray⟩, .int .i64 k]) ∧ Below W.heap.size W w')) :
    Calls Try.prog 10 #[.agg #[.int .i64 c, .int .i64 i, v, .string ⟨d.toArray⟩]] w fun e w' => e = .returned (.tuple #[.string ⟨#[]⟩, .int .i64 502]) ∧ Below w.heap.size w w' := by
  have hq : (k != 0) = true := by simpa using hk
  have h1 : 0 ≤ c := by omega
  have h2 : c ≤ 255 := by omega
  clear hk
  have HX := Lib.hid (Box.new w [.int .i64 c, .int .i64 i, v, .string ⟨d.toArray⟩] 24)
  have HB := Lib.hid ((Below.refl w.heap.size w).alloc (Nat.le_refl _) (.cells #[.int .i64 c, .int .i64 i, v, .string ⟨d.toArray⟩] 24))
  go_enter Try.func10, Try.ntmps10
  go_wp2_with fail
  refine (P.out _ HB.out).mono ?_
  rintro e w2 ⟨rfl, hb2⟩
  have HX2 := Lib.hid (HX.out.below hb2)
  have HB2 := Lib.hid (bel2 HB.out hb2)
  have k0 := HX2.out 0 _ rfl
  have k1 := HX2.out 1 _ rfl
  have k2 := HX2.out 2 _ rfl
  have k3 := HX2.out 3 _ rfl
  have hz := HX2.out.lt
  clear hb2
  go_wp2_with fail
  go_ret2
  exact ⟨rfl, HB2.out⟩
set_option maxHeartbeats 400000 in
theorem rc_both (c i : Int) (v : Value) (t d : List UInt8) (w : World) (h3 : 0 ≤ i) (h4 : i ≤ 255) (g1 : 1 ≤ c) (g2 : c ≤ 4) (hd : d ≠ [])
    (P : Hid (∀ W, Below w.heap.size w W → Calls Try.prog 18 #[v] W fun e w' => e = .returned (.tuple #[.string ⟨t.toArray⟩, .int .i64 0]) ∧ Below W.heap.size W w')) :
    Calls Try.prog 10 #[.agg #[.int .i64 c, .int .i64 i, v, .string ⟨d.toArray⟩]] w fun e w' => e = .returned (.tuple #[.string ⟨#[]⟩, .int .i64 502]) ∧ Below w.heap.size w w' := by
  have hq : (!d.isEmpty) = true := by cases d with | nil => exact absurd rfl hd | cons a b => rfl
  have h1 : 0 ≤ c := by omega
  have h2 : c ≤ 255 := by omega
  clear hd
  have HX := Lib.hid (Box.new w [.int .i64 c, .int .i64 i, v, .string ⟨d.toArray⟩] 24)
  have HB := Lib.hid ((Below.refl w.heap.size w).alloc (Nat.le_refl _) (.cells #[.int .i64 c, .int .i64 i, v, .string ⟨d.toArray⟩] 24))
  go_enter Try.func10, Try.ntmps10
  go_wp2_with fail
  refine (P.out _ HB.out).mono ?_
  rintro e w2 ⟨rfl, hb2⟩
  have HX2 := Lib.hid (HX.out.below hb2)
  have HB2 := Lib.hid (bel2 HB.out hb2)
  have k0 := HX2.out 0 _ rfl
  have k1 := HX2.out 1 _ rfl
  have k2 := HX2.out 2 _ rfl
  have k3 := HX2.out 3 _ rfl
  have hz := HX2.out.lt
  clear hb2
  go_wp2_with fail
  go_ret2
  exact ⟨rfl, HB2.out⟩
set_option maxRecDepth 100000 in
set_option maxHeartbeats 400000 in
theorem rc_long (c i : Int) (v : Value) (t d : List UInt8) (w : World) (h3 : 0 ≤ i) (h4 : i ≤ 255) (g1 : 1 ≤ c) (g2 : c ≤ 4) (hq : (!d.isEmpty) = false) (ht : 2044 < t.length) (ht2 : t.length ≤ 2048)
    (P : Hid (∀ W, Below w.heap.size w W → Calls Try.prog 18 #[v] W fun e w' => e = .returned (.tuple #[.string ⟨t.toArray⟩, .int .i64 0]) ∧ Below W.heap.size W w')) :
    Calls Try.prog 10 #[.agg #[.int .i64 c, .int .i64 i, v, .string ⟨d.toArray⟩]] w fun e w' => e = .returned (.tuple #[.string ⟨#[]⟩, .int .i64 503]) ∧ Below w.heap.size w w' := by
  have h1 : 0 ≤ c := by omega
  have h2 : c ≤ 255 := by omega
  have HX := Lib.hid (Box.new w [.int .i64 c, .int .i64 i, v, .string ⟨d.toArray⟩] 24)
  have HB := Lib.hid ((Below.refl w.heap.size w).alloc (Nat.le_refl _) (.cells #[.int .i64 c, .int .i64 i, v, .string ⟨d.toArray⟩] 24))
  go_enter Try.func10, Try.ntmps10
  go_wp2_with fail
  refine (P.out _ HB.out).mono ?_
  rintro e w2 ⟨rfl, hb2⟩
  have HX2 := Lib.hid (HX.out.below hb2)
  have HB2 := Lib.hid (bel2 HB.out hb2)
  have k0 := HX2.out 0 _ rfl
  have k1 := HX2.out 1 _ rfl
  have k2 := HX2.out 2 _ rfl
  have k3 := HX2.out 3 _ rfl
  have hz := HX2.out.lt
  clear hb2
  go_wp2_with fail
  go_ret2
  exact ⟨rfl, HB2.out⟩
set_option maxRecDepth 100000 in
set_option maxHeartbeats 1600000 in
theorem rc_good (c i : Int) (v : Value) (t d T0 A0 U : List UInt8) (w : World) (h3 : 0 ≤ i) (h4 : i ≤ 255) (g1 : 1 ≤ c) (g2 : c ≤ 4) (hq : (!d.isEmpty) = false) (ht : t.length ≤ 2044)
    (P : Hid (∀ W, Below w.heap.size w W → Calls Try.prog 18 #[v] W fun e w' => e = .returned (.tuple #[.string ⟨t.toArray⟩, .int .i64 0]) ∧ Below W.heap.size W w'))
    (T : Hid (∀ W, Calls Try.prog 23 #[.int .i64 ((t.length : Int) + 4)] W fun e w' => e = .returned (.string ⟨T0.toArray⟩) ∧ Below W.heap.size W w'))
    (p q : UInt8) (hp : (p.toNat : Int) = c) (hq : (q.toNat : Int) = i) (r1 : O.Sums [p, q] T0 A0) (r2 : O.Sums A0 t U) :
    Calls Try.prog 10 #[.agg #[.int .i64 c, .int .i64 i, v, .string ⟨d.toArray⟩]] w fun e w' => e = .returned (.tuple #[.string ⟨U.toArray⟩, .int .i64 0]) ∧ Below w.heap.size w w' := by
  have h1 : 0 ≤ c := by omega
  have h2 : c ≤ 255 := by omega
  unfold O.Sums at r1 r2
  have e1 : IntKind.i64.wrap ((t.length : Int) + 4) = (t.length : Int) + 4 := IntWalk.i64_in _ (by omega)
  have e2 : IntKind.u8.wrap c = c := by rw [IntKind.wrap_u8']; omega
  have e3 : IntKind.u8.wrap i = i := by rw [IntKind.wrap_u8']; omega
  have F := fun W B => conv_two W B p q c i hp hq
  obtain ⟨S0, hS0⟩ : ∃ S0, S0 = [p, q] := ⟨_, rfl⟩
  rw [← hS0] at F r1
  clear hp hq hS0
  have HX := Lib.hid (Box.new w [.int .i64 c, .int .i64 i, v, .string ⟨d.toArray⟩] 24)
  have HB := Lib.hid ((Below.refl w.heap.size w).alloc (Nat.le_refl _) (.cells #[.int .i64 c, .int .i64 i, v, .string ⟨d.toArray⟩] 24))
  go_enter Try.func10, Try.ntmps10
  go_wp2_with fail
  refine (P.out _ HB.out).mono ?_
  rintro e w2 ⟨rfl, hb2⟩
  have HX2 := Lib.hid (HX.out.below hb2)
  have HB2 := Lib.hid (bel2 HB.out hb2)
  have k0 := HX2.out 0 _ rfl
  have k1 := HX2.out 1 _ rfl
  have k2 := HX2.out 2 _ rfl
  have k3 := HX2.out 3 _ rfl
  have hz := HX2.out.lt
  clear hb2
  go_wp2_with fail
  have K2 : Hid (w2.cell? ⟨w.heap.size, 0, none⟩ = some (.int .i64 c) ∧ w2.cell? ⟨w.heap.size, 1, none⟩ = some (.int .i64 i) ∧ w.heap.size < w2.heap.size ∧ Below w.heap.size w w2) := Lib.hid ⟨k0, k1, hz, HB2.out⟩
  clear k0 k1 k2 k3 hz
  go_region_held (fun a => a.cell? ⟨w.heap.size, 0, none⟩ = some (.int .i64 c) ∧ a.cell? ⟨w.heap.size, 1, none⟩ = some (.int .i64 i) ∧ w.heap.size < a.heap.size ∧ Below w.heap.size w a) (first | assumption | exact box2_drew K2.out | exact box2_alloc (by assumption) _ | exact box2_kept (by assumption) hb4)
    (first | (go_at_call 23; refine (T.out _).mono ?_; rintro e w4 ⟨rfl, hb4⟩; obtain ⟨hc4, hf4⟩ := bcell hb4))
  all_goals
    rename_i hH
    have H9 := Lib.hid hH
    clear hH
    go_wp2_with fail
    go_ret2
    exact ⟨rfl, H9.out.2.2.2⟩
end Go.Proofs.Ytoodhbdgnfmofaa.C
