/-
  The walk of the law of fragments that come back.
-/
import Derived.Test.YtlolnbmdjnnkjaaDA
namespace Go.Proofs.Ytlolnbmdjnnkjaa.D
open Go.RowKit
set_option maxRecDepth 100000 in
set_option maxHeartbeats 3200000 in
theorem back_gg (b e : Bool) (q : Int) (d S : List UInt8) (s : ByteArray) (short b2 e2 : Bool) (q2 k1 k2 : Int) (d2 : List UInt8) (w : World) (hk1 : k1 = 0) (hk2 : k2 = 0)
    (AW : Hid (∀ W, Calls Try.prog 12 #[] W fun e w' => e = .returned (.bool true) ∧ Below W.heap.size W w'))
    (PUT : Hid (∀ W, Calls Try.prog 7 #[.agg #[.bool b, .bool e, .int .i64 q, .string ⟨d.toArray⟩], .bool short] W fun e w' => e = .returned (.tuple #[.string ⟨S.toArray⟩, .int .i64 k1]) ∧ Below W.heap.size W w'))
    (G1 : Hid (∀ W, Calls Try.prog 9 #[.string ⟨S.toArray⟩, .bool short] W (FragPost ((b, e, q, d), 0) W)))
    (G2 : Hid (∀ W, Calls Try.prog 9 #[.string s, .bool short] W (FragPost ((b2, e2, q2, d2), k2) W)))
    (P2 : Hid (∀ W, Calls Try.prog 7 #[.agg #[.bool b2, .bool e2, .int .i64 q2, .string ⟨d2.toArray⟩], .bool short] W fun e w' => e = .returned (.tuple #[.string s, .int .i64 0]) ∧ Below W.heap.size W w'))
    : Calls Try.prog 4 #[.agg #[.bool b, .bool e, .int .i64 q, .string ⟨d.toArray⟩], .string s, .bool short] w fun e w' => e = .returned (.bool true) ∧ Below w.heap.size w w' := by
  subst hk1
  subst hk2
  have EQ := eqF_yes b e q d
  have E1 := EQ.1
  have E2 := EQ.2.1
  have E3 := guardF
  clear EQ
  have X0 := Lib.hid (Box.new w [.bool b, .bool e, .int .i64 q, .string ⟨d.toArray⟩] 23)
  have B0 := Lib.hid ((Below.refl w.heap.size w).alloc (Nat.le_refl _) (.cells #[.bool b, .bool e, .int .i64 q, .string ⟨d.toArray⟩] 23))
  go_enter Try.func4, Try.ntmps4
  go_wp2_with fail
  refine (AW.out _).mono ?_
  rintro r w1 ⟨rfl, hb1⟩
  have X1 := Lib.hid (X0.out.below hb1)
  have B1 := Lib.hid (bel2 B0.out hb1)
  have k0 := X1.out 0 _ rfl
  have k1 := X1.out 1 _ rfl
  have k2 := X1.out 2 _ rfl
  have k3 := X1.out 3 _ rfl
  clear hb1
  go_wp2_with fail
  clear k0 k1 k2 k3
  refine (PUT.out _).mono ?_
  rintro r w2 ⟨rfl, hb2⟩
  have X2 := Lib.hid (X1.out.below hb2)
  have B2 := Lib.hid (bel2 B1.out hb2)
  clear hb2
  go_wp2_with (go_at_call 11; refine (num_any _ _).mono ?_; rintro r w9 ⟨rfl, rfl⟩)
  refine (G1.out _).mono ?_
  rintro r w3 ⟨rfl, hb3⟩
  have X3 := (X2.out.below hb3).alloc (.cells #[.bool b, .bool e, .int .i64 q, .string ⟨d.toArray⟩] 23)
  have B3 := Lib.hid (bel2 (bel2 B2.out hb3) ((Below.refl w3.heap.size w3).alloc (Nat.le_refl _) (.cells #[.bool b, .bool e, .int .i64 q, .string ⟨d.toArray⟩] 23)))
  have z1 := X3.lt
  have k0 := (X2.out.below hb3) 0 _ rfl
  have k1 := (X2.out.below hb3) 1 _ rfl
  have k2 := (X2.out.below hb3) 2 _ rfl
  have k3 := (X2.out.below hb3) 3 _ rfl
  have z1 := (X2.out.below hb3).lt
  clear hb3 X3
  go_wp2_with (go_at_call 11; refine (num_any _ _).mono ?_; rintro r w9 ⟨rfl, rfl⟩)
  refine (G2.out _).mono ?_
  rintro r w4 ⟨rfl, hb4⟩
  have Y4 := Lib.hid (Box.new w4 [.bool b2, .bool e2, .int .i64 q2, .string ⟨d2.toArray⟩] 23)
  have B4 := Lib.hid (bel2 (bel2 B3.out hb4) ((Below.refl w4.heap.size w4).alloc (Nat.le_refl _) (.cells #[.bool b2, .bool e2, .int .i64 q2, .string ⟨d2.toArray⟩] 23)))
  clear hb4
  go_wp2_with (go_at_call 11; refine (num_any _ _).mono ?_; rintro r w9 ⟨rfl, rfl⟩)
  refine (P2.out _).mono ?_
  rintro r w5 ⟨rfl, hb5⟩
  have B5 := Lib.hid (bel2 B4.out hb5)
  clear hb5
  go_wp2_with (go_at_call 11; refine (num_any _ _).mono ?_; rintro r w9 ⟨rfl, rfl⟩)
  go_ret
  exact ⟨rfl, B5.out⟩
set_option maxRecDepth 100000 in
set_option maxHeartbeats 3200000 in
theorem back_gb (b e : Bool) (q : Int) (d S : List UInt8) (s : ByteArray) (short b2 e2 : Bool) (q2 k1 k2 : Int) (d2 : List UInt8) (w : World) (hk1 : k1 = 0) (hk2 : (k2 != 0) = true)
    (AW : Hid (∀ W, Calls Try.prog 12 #[] W fun e w' => e = .returned (.bool true) ∧ Below W.heap.size W w'))
    (PUT : Hid (∀ W, Calls Try.prog 7 #[.agg #[.bool b, .bool e, .int .i64 q, .string ⟨d.toArray⟩], .bool short] W fun e w' => e = .returned (.tuple #[.string ⟨S.toArray⟩, .int .i64 k1]) ∧ Below W.heap.size W w'))
    (G1 : Hid (∀ W, Calls Try.prog 9 #[.string ⟨S.toArray⟩, .bool short] W (FragPost ((b, e, q, d), 0) W)))
    (G2 : Hid (∀ W, Calls Try.prog 9 #[.string s, .bool short] W (FragPost ((b2, e2, q2, d2), k2) W)))
    (hz : b2 = false ∧ e2 = false ∧ q2 = 0 ∧ d2 = [])
    : Calls Try.prog 4 #[.agg #[.bool b, .bool e, .int .i64 q, .string ⟨d.toArray⟩], .string s, .bool short] w fun e w' => e = .returned (.bool true) ∧ Below w.heap.size w w' := by
  subst hk1
  obtain ⟨rfl, rfl, rfl, rfl⟩ := hz
  have EQ := eqF_yes b e q d
  have E1 := EQ.1
  have E2 := EQ.2.1
  have E3 := guardF
  clear EQ
  have EZ := eqF_yes false false 0 []
  have E4 := EZ.1
  have E5 := EZ.2.2
  clear EZ
  have X0 := Lib.hid (Box.new w [.bool b, .bool e, .int .i64 q, .string ⟨d.toArray⟩] 23)
  have B0 := Lib.hid ((Below.refl w.heap.size w).alloc (Nat.le_refl _) (.cells #[.bool b, .bool e, .int .i64 q, .string ⟨d.toArray⟩] 23))
  go_enter Try.func4, Try.ntmps4
  go_wp2_with fail
  refine (AW.out _).mono ?_
  rintro r w1 ⟨rfl, hb1⟩
  have X1 := Lib.hid (X0.out.below hb1)
  have B1 := Lib.hid (bel2 B0.out hb1)
  have k0 := X1.out 0 _ rfl
  have k1 := X1.out 1 _ rfl
  have k2 := X1.out 2 _ rfl
  have k3 := X1.out 3 _ rfl
  clear hb1
  go_wp2_with fail
  clear k0 k1 k2 k3
  refine (PUT.out _).mono ?_
  rintro r w2 ⟨rfl, hb2⟩
  have X2 := Lib.hid (X1.out.below hb2)
  have B2 := Lib.hid (bel2 B1.out hb2)
  clear hb2
  go_wp2_with (go_at_call 11; refine (num_any _ _).mono ?_; rintro r w9 ⟨rfl, rfl⟩)
  refine (G1.out _).mono ?_
  rintro r w3 ⟨rfl, hb3⟩
  have X3 := (X2.out.below hb3).alloc (.cells #[.bool b, .bool e, .int .i64 q, .string ⟨d.toArray⟩] 23)
  have B3 := Lib.hid (bel2 (bel2 B2.out hb3) ((Below.refl w3.heap.size w3).alloc (Nat.le_refl _) (.cells #[.bool b, .bool e, .int .i64 q, .string ⟨d.toArray⟩] 23)))
  have z1 := X3.lt
  have k0 := (X2.out.below hb3) 0 _ rfl
  have k1 := (X2.out.below hb3) 1 _ rfl
  have k2 := (X2.out.below hb3) 2 _ rfl
  have k3 := (X2.out.below hb3) 3 _ rfl
  have z1 := (X2.out.below hb3).lt
  clear hb3 X3
  go_wp2_with (go_at_call 11; refine (num_any _ _).mono ?_; rintro r w9 ⟨rfl, rfl⟩)
  refine (G2.out _).mono ?_
  rintro r w4 ⟨rfl, hb4⟩
  have B4 := Lib.hid (bel2 (bel2 B3.out hb4) ((Below.refl w4.heap.size w4).alloc (Nat.le_refl _) (.cells #[.bool false, .bool false, .int .i64 0, .string ⟨#[]⟩] 23)))
  clear hb4
  go_wp2_with (go_at_call 11; refine (num_any _ _).mono ?_; rintro r w9 ⟨rfl, rfl⟩)
  go_ret
  exact ⟨rfl, B4.out⟩
set_option maxRecDepth 100000 in
set_option maxHeartbeats 3200000 in
theorem back_bg (b e : Bool) (q : Int) (d S : List UInt8) (s : ByteArray) (short b2 e2 : Bool) (q2 k1 k2 : Int) (d2 : List UInt8) (w : World) (hk1 : (k1 == 0) = false) (hk2 : k2 = 0)
    (AW : Hid (∀ W, Calls Try.prog 12 #[] W fun e w' => e = .returned (.bool true) ∧ Below W.heap.size W w'))
    (PUT : Hid (∀ W, Calls Try.prog 7 #[.agg #[.bool b, .bool e, .int .i64 q, .string ⟨d.toArray⟩], .bool short] W fun e w' => e = .returned (.tuple #[.string ⟨S.toArray⟩, .int .i64 k1]) ∧ Below W.heap.size W w'))
    (G2 : Hid (∀ W, Calls Try.prog 9 #[.string s, .bool short] W (FragPost ((b2, e2, q2, d2), k2) W)))
    (P2 : Hid (∀ W, Calls Try.prog 7 #[.agg #[.bool b2, .bool e2, .int .i64 q2, .string ⟨d2.toArray⟩], .bool short] W fun e w' => e = .returned (.tuple #[.string s, .int .i64 0]) ∧ Below W.heap.size W w'))
    : Calls Try.prog 4 #[.agg #[.bool b, .bool e, .int .i64 q, .string ⟨d.toArray⟩], .string s, .bool short] w fun e w' => e = .returned (.bool true) ∧ Below w.heap.size w w' := by
  subst hk2
  have EQ := eqF_yes b e q d
  have E1 := EQ.1
  have E2 := EQ.2.1
  have E3 := guardF
  clear EQ
  have X0 := Lib.hid (Box.new w [.bool b, .bool e, .int .i64 q, .string ⟨d.toArray⟩] 23)
  have B0 := Lib.hid ((Below.refl w.heap.size w).alloc (Nat.le_refl _) (.cells #[.bool b, .bool e, .int .i64 q, .string ⟨d.toArray⟩] 23))
  go_enter Try.func4, Try.ntmps4
  go_wp2_with fail
  refine (AW.out _).mono ?_
  rintro r w1 ⟨rfl, hb1⟩
  have X1 := Lib.hid (X0.out.below hb1)
  have B1 := Lib.hid (bel2 B0.out hb1)
  have k0 := X1.out 0 _ rfl
  have k1 := X1.out 1 _ rfl
  have k2 := X1.out 2 _ rfl
  have k3 := X1.out 3 _ rfl
  clear hb1
  go_wp2_with fail
  clear k0 k1 k2 k3
  refine (PUT.out _).mono ?_
  rintro r w2 ⟨rfl, hb2⟩
  have X2 := Lib.hid (X1.out.below hb2)
  have B2 := Lib.hid (bel2 B1.out hb2)
  clear hb2
  go_wp2_with (go_at_call 11; refine (num_any _ _).mono ?_; rintro r w9 ⟨rfl, rfl⟩)
  refine (G2.out _).mono ?_
  rintro r w4 ⟨rfl, hb4⟩
  have Y4 := Lib.hid (Box.new w4 [.bool b2, .bool e2, .int .i64 q2, .string ⟨d2.toArray⟩] 23)
  have B4 := Lib.hid (bel2 (bel2 B2.out hb4) ((Below.refl w4.heap.size w4).alloc (Nat.le_refl _) (.cells #[.bool b2, .bool e2, .int .i64 q2, .string ⟨d2.toArray⟩] 23)))
  clear hb4
  go_wp2_with (go_at_call 11; refine (num_any _ _).mono ?_; rintro r w9 ⟨rfl, rfl⟩)
  refine (P2.out _).mono ?_
  rintro r w5 ⟨rfl, hb5⟩
  have B5 := Lib.hid (bel2 B4.out hb5)
  clear hb5
  go_wp2_with (go_at_call 11; refine (num_any _ _).mono ?_; rintro r w9 ⟨rfl, rfl⟩)
  go_ret
  exact ⟨rfl, B5.out⟩
set_option maxRecDepth 100000 in
set_option maxHeartbeats 3200000 in
theorem back_bb (b e : Bool) (q : Int) (d S : List UInt8) (s : ByteArray) (short b2 e2 : Bool) (q2 k1 k2 : Int) (d2 : List UInt8) (w : World) (hk1 : (k1 == 0) = false) (hk2 : (k2 != 0) = true)
    (AW : Hid (∀ W, Calls Try.prog 12 #[] W fun e w' => e = .returned (.bool true) ∧ Below W.heap.size W w'))
    (PUT : Hid (∀ W, Calls Try.prog 7 #[.agg #[.bool b, .bool e, .int .i64 q, .string ⟨d.toArray⟩], .bool short] W fun e w' => e = .returned (.tuple #[.string ⟨S.toArray⟩, .int .i64 k1]) ∧ Below W.heap.size W w'))
    (G2 : Hid (∀ W, Calls Try.prog 9 #[.string s, .bool short] W (FragPost ((b2, e2, q2, d2), k2) W)))
    (hz : b2 = false ∧ e2 = false ∧ q2 = 0 ∧ d2 = [])
    : Calls Try.prog 4 #[.agg #[.bool b, .bool e, .int .i64 q, .string ⟨d.toArray⟩], .string s, .bool short] w fun e w' => e = .returned (.bool true) ∧ Below w.heap.size w w' := by
  obtain ⟨rfl, rfl, rfl, rfl⟩ := hz
  have EQ := eqF_yes b e q d
  have E1 := EQ.1
  have E2 := EQ.2.1
  have E3 := guardF
  clear EQ
  have EZ := eqF_yes false false 0 []
  have E4 := EZ.1
  have E5 := EZ.2.2
  clear EZ
  have X0 := Lib.hid (Box.new w [.bool b, .bool e, .int .i64 q, .string ⟨d.toArray⟩] 23)
  have B0 := Lib.hid ((Below.refl w.heap.size w).alloc (Nat.le_refl _) (.cells #[.bool b, .bool e, .int .i64 q, .string ⟨d.toArray⟩] 23))
  go_enter Try.func4, Try.ntmps4
  go_wp2_with fail
  refine (AW.out _).mono ?_
  rintro r w1 ⟨rfl, hb1⟩
  have X1 := Lib.hid (X0.out.below hb1)
  have B1 := Lib.hid (bel2 B0.out hb1)
  have k0 := X1.out 0 _ rfl
  have k1 := X1.out 1 _ rfl
  have k2 := X1.out 2 _ rfl
  have k3 := X1.out 3 _ rfl
  clear hb1
  go_wp2_with fail
  clear k0 k1 k2 k3
  refine (PUT.out _).mono ?_
  rintro r w2 ⟨rfl, hb2⟩
  have X2 := Lib.hid (X1.out.below hb2)
  have B2 := Lib.hid (bel2 B1.out hb2)
  clear hb2
  go_wp2_with (go_at_call 11; refine (num_any _ _).mono ?_; rintro r w9 ⟨rfl, rfl⟩)
  refine (G2.out _).mono ?_
  rintro r w4 ⟨rfl, hb4⟩
  have B4 := Lib.hid (bel2 (bel2 B2.out hb4) ((Below.refl w4.heap.size w4).alloc (Nat.le_refl _) (.cells #[.bool false, .bool false, .int .i64 0, .string ⟨#[]⟩] 23)))
  clear hb4
  go_wp2_with (go_at_call 11; refine (num_any _ _).mono ?_; rintro r w9 ⟨rfl, rfl⟩)
  go_ret
  exact ⟨rfl, B4.out⟩
theorem walk_back (b e : Bool) (q : Int) (d s : ByteArray) (short : Bool) (w : World) (_ : (Lit.int .i64 q).wf = true) (_ : d.size ≤ maxLen) (_ : s.size ≤ maxLen) :
    Calls Try.prog 4 #[.agg #[.bool b, .bool e, .int .i64 q, .string d], .string s, .bool short] w fun e w' => e = .returned (.bool true) ∧ Below w.heap.size w w' := by
  have A := Lib.hid fun W => awake_any W
  obtain ⟨dl, rfl⟩ : ∃ dl : List UInt8, d = ⟨dl.toArray⟩ := ⟨d.data.toList, by simp⟩
  obtain ⟨sl, rfl⟩ : ∃ sl : List UInt8, s = ⟨sl.toArray⟩ := ⟨s.data.toList, by simp⟩
  have P := fun W => dput_any short b e q dl W
  have G := fun W => dget_any short sl W
  have ways : ∃ (b2 e2 : Bool) (q2 k2 : Int) (d2 : List UInt8), Mph.get short sl = ((b2, e2, q2, d2), k2) ∧ ((k2 = 0 ∧ Mph.put short (b2, e2, q2, d2) = sl ∧ Mph.code short (b2, e2, q2, d2) = 0) ∨ ((k2 != 0) = true ∧ b2 = false ∧ e2 = false ∧ q2 = 0 ∧ d2 = [])) := by
    rcases Mph.get_ways short sl with ⟨_, h⟩ | ⟨_, _, h⟩ | ⟨_, _, _, h⟩ | ⟨h1, h2, h3, h⟩
    · exact ⟨_, _, _, _, _, h, .inr ⟨rfl, rfl, rfl, rfl, rfl⟩⟩
    · exact ⟨_, _, _, _, _, h, .inr ⟨rfl, rfl, rfl, rfl, rfl⟩⟩
    · exact ⟨_, _, _, _, _, h, .inr ⟨rfl, rfl, rfl, rfl, rfl⟩⟩
    · obtain ⟨p1, p2⟩ := Mph.put_get short sl h1 h2 h3
      exact ⟨_, _, _, _, _, h, .inl ⟨rfl, p1, p2⟩⟩
  obtain ⟨b2, e2, q2, k2, d2, hg, hw⟩ := ways
  rw [hg] at G
  cases hq : Mph.good short q dl
  · obtain ⟨p1, p2⟩ := Mph.put_bad short b e q dl hq
    rw [p1, p2] at P
    rcases hw with ⟨g1, g2, g3⟩ | ⟨g1, g2⟩
    · have P2 := fun W => dput_any short b2 e2 q2 d2 W
      rw [g2, g3] at P2
      exact back_bg b e q dl _ _ short b2 e2 q2 _ k2 d2 w rfl g1 A (Lib.hid P) (Lib.hid G) (Lib.hid P2)
    · exact back_bb b e q dl _ _ short b2 e2 q2 _ k2 d2 w rfl g1 A (Lib.hid P) (Lib.hid G) g2
  · have p2 := (Mph.put_good short b e q dl hq).2
    rw [p2] at P
    have G1 := fun W => dget_any short (Mph.put short (b, e, q, dl)) W
    rw [Mph.get_put short b e q dl hq] at G1
    rcases hw with ⟨g1, g2, g3⟩ | ⟨g1, g2⟩
    · have P2 := fun W => dput_any short b2 e2 q2 d2 W
      rw [g2, g3] at P2
      exact back_gg b e q dl _ _ short b2 e2 q2 _ k2 d2 w rfl g1 A (Lib.hid P) (Lib.hid G1) (Lib.hid G) (Lib.hid P2)
    · exact back_gb b e q dl _ _ short b2 e2 q2 _ k2 d2 w rfl g1 A (Lib.hid P) (Lib.hid G1) (Lib.hid G) g2
end Go.Proofs.Ytlolnbmdjnnkjaa.D
