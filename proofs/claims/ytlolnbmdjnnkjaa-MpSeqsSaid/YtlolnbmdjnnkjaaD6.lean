/-
  Contract of the document's own Mp.
-/
import Derived.Test.YtlolnbmdjnnkjaaD1
import Derived.Test.YtlolnbmdjnnkjaaBox2
import Derived.Test.YtlolnbmdjnnkjaaTwoW
import Derived.Test.YtlolnbmdjnnkjaaText
import Derived.Deep.RegionWith
import Derived.Deep.RegionHeld
import Derived.BigRegion
import Derived.Deep.QuietTactic
import Derived.BigQuiet
namespace Go.Proofs.Ytlolnbmdjnnkjaa.D
open Go.RowKit
set_option maxHeartbeats 400000 in
theorem mp_neg (short b e : Bool) (q : Int) (d : ByteArray) (w : World) (hq : q < 0) :
    Calls Try.prog 8 #[.agg #[.bool b, .bool e, .int .i64 q, .string d], .bool short] w fun r w' => r = .returned (.tuple #[.string ⟨#[]⟩, .int .i64 801]) ∧ Below w.heap.size w w' := by
  have HX := Lib.hid (Box.new w [.bool b, .bool e, .int .i64 q, .string d] 23)
  have HB := Lib.hid ((Below.refl w.heap.size w).alloc (Nat.le_refl _) (.cells #[.bool b, .bool e, .int .i64 q, .string d] 23))
  have d1 : decide (q < 0) = true := decide_eq_true hq
  clear hq
  go_enter Try.func8, Try.ntmps8
  go_wp2_with fail
  go_quiet (fail)
  go_wp2_with fail
  go_ret2
  exact ⟨rfl, below_drewN HB.out _⟩
set_option maxHeartbeats 400000 in
theorem mp_ring (short b e : Bool) (q R : Int) (d : ByteArray) (w : World) (hq : 0 ≤ q) (hr : R ≤ q)
    (RG : Hid (∀ W, Calls Try.prog 16 #[.bool short] W fun r w' => r = .returned (.int .i64 R) ∧ W = w')) :
    Calls Try.prog 8 #[.agg #[.bool b, .bool e, .int .i64 q, .string d], .bool short] w fun r w' => r = .returned (.tuple #[.string ⟨#[]⟩, .int .i64 801]) ∧ Below w.heap.size w w' := by
  have HX := Lib.hid (Box.new w [.bool b, .bool e, .int .i64 q, .string d] 23)
  have HB := Lib.hid ((Below.refl w.heap.size w).alloc (Nat.le_refl _) (.cells #[.bool b, .bool e, .int .i64 q, .string d] 23))
  have d1 : decide (q < 0) = false := decide_eq_false (by omega)
  have d2 : decide (R ≤ q) = true := decide_eq_true hr
  clear hq hr
  go_enter Try.func8, Try.ntmps8
  go_wp2_with fail
  go_quiet ((go_at_call 16; exact Calls.quiet_of_same ((RG.out _).mono fun _ _ ⟨h1, h2⟩ => ⟨h1, h2.symm⟩)))
  go_wp2_with fail
  go_ret2
  exact ⟨rfl, below_drewN HB.out _⟩
set_option maxHeartbeats 400000 in
theorem mp_data (short b e : Bool) (q R : Int) (d : ByteArray) (w : World) (hq : 0 ≤ q) (hr : q < R) (hd : 2048 < (d.size : Int))
    (RG : Hid (∀ W, Calls Try.prog 16 #[.bool short] W fun r w' => r = .returned (.int .i64 R) ∧ W = w')) :
    Calls Try.prog 8 #[.agg #[.bool b, .bool e, .int .i64 q, .string d], .bool short] w fun r w' => r = .returned (.tuple #[.string ⟨#[]⟩, .int .i64 801]) ∧ Below w.heap.size w w' := by
  have HX := Lib.hid (Box.new w [.bool b, .bool e, .int .i64 q, .string d] 23)
  have HB := Lib.hid ((Below.refl w.heap.size w).alloc (Nat.le_refl _) (.cells #[.bool b, .bool e, .int .i64 q, .string d] 23))
  have d1 : decide (q < 0) = false := decide_eq_false (by omega)
  have d2 : decide (R ≤ q) = false := decide_eq_false (by omega)
  have d3 : decide (2048 < (d.size : Int)) = true := decide_eq_true hd
  clear hq hr hd
  go_enter Try.func8, Try.ntmps8
  go_wp2_with fail
  go_quiet ((go_at_call 16; exact Calls.quiet_of_same ((RG.out _).mono fun _ _ ⟨h1, h2⟩ => ⟨h1, h2.symm⟩)))
  go_wp2_with fail
  go_ret2
  exact ⟨rfl, below_drewN HB.out _⟩
/-- The number and the data of a fragment in a box. -/
abbrev ND (B : Nat) (w a : World) (x y : Value) : Prop := a.cell? ⟨B, 2, none⟩ = some x ∧ a.cell? ⟨B, 3, none⟩ = some y ∧ B < a.heap.size ∧ Below w.heap.size w a
theorem nd_kept {B : Nat} {w a b : World} {x y : Value} (h : ND B w a x y) (k : Below a.heap.size a b) : ND B w b x y := by
  obtain ⟨h1, h2, h3, h4⟩ := h
  exact ⟨(k.cell (p := ⟨B, 2, none⟩) h3).trans h1, (k.cell (p := ⟨B, 3, none⟩) h3).trans h2, Nat.lt_of_lt_of_le h3 k.size, bel2 h4 k⟩
theorem nd_drew {B : Nat} {w a : World} {x y : Value} (h : ND B w a x y) : ND B w a.drew x y := ⟨h.1, h.2.1, h.2.2.1, h.2.2.2.drew⟩
theorem nd_alloc {B : Nat} {w a : World} {x y : Value} (h : ND B w a x y) (o : Obj) : ND B w (a.alloc o) x y := nd_kept h ((Below.refl _ a).alloc (Nat.le_refl _) o)
theorem nd_of {B : Nat} {w a : World} {x y z u : Value} (h : Box B a [x, y, z, u]) (k : Below w.heap.size w a) : ND B w a z u := ⟨h 2 _ rfl, h 3 _ rfl, h.lt, k⟩
set_option maxRecDepth 100000 in
set_option maxHeartbeats 6400000 in
theorem mp_short (b e : Bool) (q N : Int) (d T0 U : List UInt8) (w : World) (hq : 0 ≤ q) (hr : q < 4096) (hd : d.length ≤ 2048) (hor : bits BinOp.or IntKind.i64 ((Mph.mark b e * 256 : Nat) : Int) q = N)
    (RG : Hid (∀ W, Calls Try.prog 16 #[.bool true] W fun r w' => r = .returned (.int .i64 4096) ∧ W = w'))
    (T : Hid (∀ W, Calls Try.prog 17 #[.int .i64 N] W fun r w' => r = .returned (.string ⟨T0.toArray⟩) ∧ Below W.heap.size W w')) (r1 : Sums T0 d U) :
    Calls Try.prog 8 #[.agg #[.bool b, .bool e, .int .i64 q, .string ⟨d.toArray⟩], .bool true] w fun r w' => r = .returned (.tuple #[.string ⟨U.toArray⟩, .int .i64 0]) ∧ Below w.heap.size w w' := by
  unfold Sums at r1
  have HX := Lib.hid (Box.new w [.bool b, .bool e, .int .i64 q, .string ⟨d.toArray⟩] 23)
  have HB := Lib.hid ((Below.refl w.heap.size w).alloc (Nat.le_refl _) (.cells #[.bool b, .bool e, .int .i64 q, .string ⟨d.toArray⟩] 23))
  have d1 : decide (q < 0) = false := decide_eq_false (by omega)
  have d2 : decide (4096 ≤ q) = false := decide_eq_false (by omega)
  have d3 : decide (2048 < (d.length : Int)) = false := decide_eq_false (by omega)
  have u0 : IntKind.i64.wrap 0 = 0 := by decide
  have u1 : IntKind.i64.wrap 16384 = 16384 := by decide
  have u2 : IntKind.i64.wrap 32768 = 32768 := by decide
  have u3 : IntKind.i64.wrap 49152 = 49152 := by decide
  cases b <;> cases e <;> simp [Mph.mark] at hor <;>
  · go_enter Try.func8, Try.ntmps8
    go_wp2_with fail
    go_quiet ((go_at_call 16; exact Calls.quiet_of_same ((RG.out _).mono fun _ _ ⟨h1, h2⟩ => ⟨h1, h2.symm⟩)))
    have X1 := HX.out.below (below_drewN (Below.refl _ _) nq)
    have B1 := below_drewN HB.out nq
    generalize (w.alloc (.cells _ 23)).drewN nq = w1 at *
    have K2 := Lib.hid (nd_of X1 B1)
    have hz := X1.lt
    have k0 := X1 0 _ rfl
    have k1 := X1 1 _ rfl
    clear X1 B1 HX HB d1 d2 RG hq hr
    go_wp2_with fail
    go_region_held (fun a => ND w.heap.size w a (.int .i64 q) (.string ⟨d.toArray⟩)) (first | assumption | exact nd_drew K2.out | exact nd_alloc (by assumption) _ | exact nd_kept (by assumption) hb4)
      (first | (go_at_call 17; (with_reducible refine (T.out _).mono ?_); rintro r w4 ⟨rfl, hb4⟩; obtain ⟨hc4, hf4⟩ := bcell hb4))
    all_goals
      rename_i hH
      have H9 := Lib.hid hH
      clear hH
      go_wp2_with fail
      go_ret2
      exact ⟨rfl, H9.out.2.2.2⟩
end Go.Proofs.Ytlolnbmdjnnkjaa.D
