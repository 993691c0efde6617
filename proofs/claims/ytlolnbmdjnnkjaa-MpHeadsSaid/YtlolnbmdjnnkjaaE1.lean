/-
  The walk of the law of any fragment as bytes, any bytes as one.
-/
import Derived.Test.YtlolnbmdjnnkjaaDA
import Derived.Test.YtlolnbmdjnnkjaaD7
import Derived.Test.YtlolnbmdjnnkjaaD9
namespace Go.Proofs.Ytlolnbmdjnnkjaa.D
open Go.RowKit
set_option maxRecDepth 100000 in
set_option maxHeartbeats 3200000 in
theorem heads_walk (b e : Bool) (q E : Int) (d A s : ByteArray) (short b2 e2 : Bool) (q2 G : Int) (d2 : List UInt8) (w : World)
    (AW : Hid (∀ W, Calls Try.prog 12 #[] W fun e w' => e = .returned (.bool true) ∧ Below W.heap.size W w'))
    (PUT : Hid (∀ W, Calls Try.prog 7 #[.agg #[.bool b, .bool e, .int .i64 q, .string d], .bool short] W fun e w' => e = .returned (.tuple #[.string A, .int .i64 E]) ∧ Below W.heap.size W w'))
    (REF : Hid (∀ W, Calls Try.prog 8 #[.agg #[.bool b, .bool e, .int .i64 q, .string d], .bool short] W fun e w' => e = .returned (.tuple #[.string A, .int .i64 E]) ∧ Below W.heap.size W w'))
    (GET : Hid (∀ W, Calls Try.prog 9 #[.string s, .bool short] W (FragPost ((b2, e2, q2, d2), G) W)))
    (UN : Hid (∀ W, Calls Try.prog 10 #[.string s, .bool short] W (FragPost ((b2, e2, q2, d2), G) W))) :
    Calls Try.prog 3 #[.agg #[.bool b, .bool e, .int .i64 q, .string d], .string s, .bool short] w fun e w' => e = .returned (.bool true) ∧ Below w.heap.size w w' := by
  have EQ := eqF_yes b2 e2 q2 d2
  have E1 := EQ.1
  have E2 := EQ.2.2
  have E3 := guardF
  clear EQ
  have X0 := Lib.hid (Box.new w [.bool b, .bool e, .int .i64 q, .string d] 23)
  have B0 := Lib.hid ((Below.refl w.heap.size w).alloc (Nat.le_refl _) (.cells #[.bool b, .bool e, .int .i64 q, .string d] 23))
  go_enter Try.func3, Try.ntmps3
  go_wp2_with fail
  refine (PUT.out _).mono ?_
  rintro e w1 ⟨rfl, hb1⟩
  have X1 := X0.out.below hb1
  have B1 := Lib.hid (bel2 B0.out hb1)
  have k0 := X1 0 _ rfl
  have k1 := X1 1 _ rfl
  have k2 := X1 2 _ rfl
  have k3 := X1 3 _ rfl
  clear hb1 X1
  go_wp2_with fail
  clear k0 k1 k2 k3
  refine (REF.out _).mono ?_
  rintro e w2 ⟨rfl, hb2⟩
  have B2 := Lib.hid (bel2 B1.out hb2)
  clear hb2
  go_wp2_with fail
  refine (GET.out _).mono ?_
  rintro e w3 ⟨rfl, hb3⟩
  have Y3 := Lib.hid (Box.new w3 [.bool b2, .bool e2, .int .i64 q2, .string ⟨d2.toArray⟩] 23)
  have B3 := Lib.hid (bel2 (bel2 B2.out hb3) ((Below.refl w3.heap.size w3).alloc (Nat.le_refl _) (.cells #[.bool b2, .bool e2, .int .i64 q2, .string ⟨d2.toArray⟩] 23)))
  clear hb3
  go_wp2_with fail
  refine (UN.out _).mono ?_
  rintro e w4 ⟨rfl, hb4⟩
  have Y4 := (Y3.out.below hb4)
  have B4 := Lib.hid (bel2 (bel2 B3.out hb4) ((Below.refl w4.heap.size w4).alloc (Nat.le_refl _) (.cells #[.bool b2, .bool e2, .int .i64 q2, .string ⟨d2.toArray⟩] 23)))
  have hz := Y4.lt
  have m0 := Y4 0 _ rfl
  have m1 := Y4 1 _ rfl
  have m2 := Y4 2 _ rfl
  have m3 := Y4 3 _ rfl
  clear hb4 Y4
  go_wp2_with (first | (go_at_call 11; refine (num_any _ _).mono ?_; rintro e w9 ⟨rfl, rfl⟩) | (go_at_call 12; refine (AW.out _).mono ?_; rintro e w6 ⟨rfl, hb6⟩; have B6 := Lib.hid (bel2 B4.out hb6); clear hb6))
  go_ret
  exact ⟨rfl, B6.out⟩
theorem walk_heads (b e : Bool) (q : Int) (d s : ByteArray) (short : Bool) (w : World) (_ : (Lit.int .i64 q).wf = true) (_ : d.size ≤ maxLen) (hs : s.size ≤ maxLen) :
    Calls Try.prog 3 #[.agg #[.bool b, .bool e, .int .i64 q, .string d], .string s, .bool short] w fun e w' => e = .returned (.bool true) ∧ Below w.heap.size w w' := by
  obtain ⟨dl, rfl⟩ : ∃ dl : List UInt8, d = ⟨dl.toArray⟩ := ⟨d.data.toList, by simp⟩
  obtain ⟨sl, rfl⟩ : ∃ sl : List UInt8, s = ⟨sl.toArray⟩ := ⟨s.data.toList, by simp⟩
  rw [sz] at hs
  have hm : maxLen = 9223372036854775807 := by decide
  exact heads_walk b e q _ _ _ _ short _ _ _ _ _ w (Lib.hid fun W => awake_any W) (Lib.hid fun W => dput_any short b e q dl W) (Lib.hid fun W => rmp_any short b e q dl W) (Lib.hid fun W => dget_any short sl W) (Lib.hid fun W => runmp_any short sl W (by omega))
end Go.Proofs.Ytlolnbmdjnnkjaa.D
