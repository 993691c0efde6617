/-
  The walk of the law of messages that come back.
-/
import Derived.Test.YtkdlhonbpciceaaH9
namespace Go.Proofs.Ytkdlhonbpciceaa.H
open Go.RowKit
set_option maxHeartbeats 1600000 in
theorem back_bad (c i k : Int) (v n more : ByteArray) (w : World) (hk : (k != 0) = true)
    (AW : Hid (∀ W, Calls Try.prog 13 #[] W fun e w' => e = .returned (.bool true) ∧ Below W.heap.size W w'))
    (PUT : Hid (∀ W, Calls Try.prog 8 #[.agg #[.int .i64 c, .int .i64 i, .string v, .string n]] W fun e w' => e = .returned (.tuple #[.string ⟨#[]⟩, .int .i64 k]) ∧ Below W.heap.size W w')) :
    Calls Try.prog 4 #[.agg #[.int .i64 c, .int .i64 i, .string v, .string n], .string more] w fun e w' => e = .returned (.bool true) ∧ Below w.heap.size w w' := by
  have X0 := Lib.hid (Box.new w [.int .i64 c, .int .i64 i, .string v, .string n] 23)
  have B0 := Lib.hid ((Below.refl w.heap.size w).alloc (Nat.le_refl _) (.cells #[.int .i64 c, .int .i64 i, .string v, .string n] 23))
  go_enter Try.func4, Try.ntmps4
  go_wp2_with fail
  refine (AW.out _).mono ?_
  rintro e w1 ⟨rfl, hb1⟩
  have X1 := X0.out.below hb1
  have B1 := Lib.hid (bel2 B0.out hb1)
  have k0 := X1 0 _ rfl
  have k1 := X1 1 _ rfl
  have k2 := X1 2 _ rfl
  have k3 := X1 3 _ rfl
  clear hb1 X1
  go_wp2_with fail
  refine (PUT.out _).mono ?_
  rintro e w2 ⟨rfl, hb2⟩
  have B2 := Lib.hid (bel2 B1.out hb2)
  clear hb2 k0 k1 k2 k3
  go_wp2_with (go_at_call 12; refine (num_any _ _).mono ?_; rintro e w9 ⟨rfl, rfl⟩)
  go_ret
  exact ⟨rfl, B2.out⟩
set_option maxHeartbeats 3200000 in
theorem back_good (c i : Int) (v n : List UInt8) (S ml U : List UInt8) (C : ByteArray) (w : World) (hS : 1 ≤ S.length) (hS2 : S.length ≤ 2048)
    (r1 : Sums S ml U) (hcut : (ByteArray.mk S.toArray).extract 0 (S.length - 1) = C)
    (AW : Hid (∀ W, Calls Try.prog 13 #[] W fun e w' => e = .returned (.bool true) ∧ Below W.heap.size W w'))
    (PUT : Hid (∀ W, Calls Try.prog 8 #[.agg #[.int .i64 c, .int .i64 i, .string ⟨v.toArray⟩, .string ⟨n.toArray⟩]] W fun e w' => e = .returned (.tuple #[.string ⟨S.toArray⟩, .int .i64 0]) ∧ Below W.heap.size W w'))
    (G : Hid (∀ W, Calls Try.prog 10 #[.string ⟨U.toArray⟩] W (MsgPost ((c, i, v, n), 0) W)))
    (G2 : Hid (∀ W, Calls Try.prog 10 #[.string C] W (MsgPost (Chp.zero, 600) W))) :
    Calls Try.prog 4 #[.agg #[.int .i64 c, .int .i64 i, .string ⟨v.toArray⟩, .string ⟨n.toArray⟩], .string ⟨ml.toArray⟩] w fun e w' => e = .returned (.bool true) ∧ Below w.heap.size w w' := by
  unfold Sums at r1
  have EQ := eqC_yes c i v n
  have E1 := EQ.1
  have E2 := EQ.2.2
  have E3 := guardC
  clear EQ
  have X0 := Lib.hid (Box.new w [.int .i64 c, .int .i64 i, .string ⟨v.toArray⟩, .string ⟨n.toArray⟩] 23)
  have B0 := Lib.hid ((Below.refl w.heap.size w).alloc (Nat.le_refl _) (.cells #[.int .i64 c, .int .i64 i, .string ⟨v.toArray⟩, .string ⟨n.toArray⟩] 23))
  have q1 : (0 : Int) ≤ (S.length : Int) - 1 := by omega
  have q2 : ((S.length : Int) - 1).toNat = S.length - 1 := by omega
  have q3 : (S.length : Int) - 1 ≤ (S.length : Int) := by omega
  go_enter Try.func4, Try.ntmps4
  go_wp2_with fail
  refine (AW.out _).mono ?_
  rintro e w1 ⟨rfl, hb1⟩
  have X1 := Lib.hid (X0.out.below hb1)
  have B1 := Lib.hid (bel2 B0.out hb1)
  have k0 := X1.out 0 _ rfl
  have k1 := X1.out 1 _ rfl
  have k2 := X1.out 2 _ rfl
  have k3 := X1.out 3 _ rfl
  clear hb1
  go_wp2_with fail
  refine (PUT.out _).mono ?_
  rintro e w2 ⟨rfl, hb2⟩
  have B2 := Lib.hid (bel2 B1.out hb2)
  have X2 := Lib.hid (X1.out.below hb2)
  clear hb2 k0 k1 k2 k3
  go_wp2_with (go_at_call 12; refine (num_any _ _).mono ?_; rintro e w9 ⟨rfl, rfl⟩)
  refine (G.out _).mono ?_
  rintro e w3 ⟨rfl, hb3⟩
  have Y3 := Lib.hid (Box.new w3 [.int .i64 c, .int .i64 i, .string ⟨v.toArray⟩, .string ⟨n.toArray⟩] 23)
  have X3 := Lib.hid ((X2.out.below hb3).alloc (.cells #[.int .i64 c, .int .i64 i, .string ⟨v.toArray⟩, .string ⟨n.toArray⟩] 23))
  have B3 := Lib.hid (bel2 (bel2 B2.out hb3) ((Below.refl w3.heap.size w3).alloc (Nat.le_refl _) (.cells #[.int .i64 c, .int .i64 i, .string ⟨v.toArray⟩, .string ⟨n.toArray⟩] 23)))
  clear hb3
  go_wp2_with fail
  refine (G2.out _).mono ?_
  rintro e w4 ⟨rfl, hb4⟩
  have Y4 := Y3.out.below hb4
  have X4 := X3.out.below hb4
  have B4 := Lib.hid (bel2 (bel2 B3.out hb4) ((Below.refl w4.heap.size w4).alloc (Nat.le_refl _) (.cells #[.int .i64 0, .int .i64 0, .string ⟨#[]⟩, .string ⟨#[]⟩] 23)))
  have z0 := X4.lt
  have z1 := Y4.lt
  have k0 := X4 0 _ rfl
  have k1 := X4 1 _ rfl
  have k2 := X4 2 _ rfl
  have k3 := X4 3 _ rfl
  have m0 := Y4 0 _ rfl
  have m1 := Y4 1 _ rfl
  have m2 := Y4 2 _ rfl
  have m3 := Y4 3 _ rfl
  clear hb4 X4 Y4
  go_wp2_with (go_at_call 12; refine (num_any _ _).mono ?_; rintro e w9 ⟨rfl, rfl⟩)
  go_ret
  exact ⟨rfl, B4.out⟩
theorem walk_back (c i : Int) (v n more : ByteArray) (w : World) (hv : v.size ≤ 140737488351232) (_ : n.size ≤ 140737488351232) (hm : more.size ≤ 140737488351232) :
    Calls Try.prog 4 #[.agg #[.int .i64 c, .int .i64 i, .string v, .string n], .string more] w fun e w' => e = .returned (.bool true) ∧ Below w.heap.size w w' := by
  have A := Lib.hid fun W => awake_any W
  obtain ⟨vl, rfl⟩ : ∃ vl : List UInt8, v = ⟨vl.toArray⟩ := ⟨v.data.toList, by simp⟩
  obtain ⟨nl, rfl⟩ : ∃ nl : List UInt8, n = ⟨nl.toArray⟩ := ⟨n.data.toList, by simp⟩
  obtain ⟨ml, rfl⟩ : ∃ ml : List UInt8, more = ⟨ml.toArray⟩ := ⟨more.data.toList, by simp⟩
  rw [sz] at hv hm
  have P := fun W => hput_any c i vl nl W (by omega)
  by_cases he : Chp.code (c, i, vl, nl) = 0
  · rw [he] at P
    have hb := Chp.body_len _ he
    have hlen : (Chp.put (c, i, vl, nl)).length ≤ 2048 ∧ 1 ≤ (Chp.put (c, i, vl, nl)).length := by
      rw [Chp.put_good _ he, Chp.wire_length]
      omega
    have hback := Chp.get_wire (c, i, vl, nl) ml he
    have hcut := Chp.get_cut (c, i, vl, nl) he
    rw [← Chp.put_good _ he] at hback hcut
    generalize Chp.put (c, i, vl, nl) = S at *
    refine back_good c i vl nl S ml (S ++ ml) ⟨(S.take (S.length - 1)).toArray⟩ w hlen.2 hlen.1 (sums _ _ (by omega)) (cut_list S 0 _) A (Lib.hid P) (Lib.hid fun W => ?_) (Lib.hid fun W => ?_)
    · have h := hget_any (S ++ ml) W (by rw [List.length_append]; omega)
      rwa [hback] at h
    · have h := hget_any (S.take (S.length - 1)) W (by rw [List.length_take]; omega)
      rwa [hcut] at h
  · rw [Chp.put_bad _ he] at P
    exact back_bad c i _ _ _ _ w (by simpa using he) A (Lib.hid P)
end Go.Proofs.Ytkdlhonbpciceaa.H
