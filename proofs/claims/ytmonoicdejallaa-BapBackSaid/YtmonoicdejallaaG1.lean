/-
  The walk of the law of datagrams that come back.
-/
import Derived.Test.YtmonoicdejallaaZ9
namespace Go.Proofs.Ytmonoicdejallaa.Z
open Go.RowKit
set_option maxHeartbeats 1600000 in
theorem back_bad (c i a k : Int) (v : Value) (more : ByteArray) (w : World) (hk : (k != 0) = true)
    (A : Hid (∀ W, Calls Try.prog 16 #[] W fun e w' => e = .returned (.bool true) ∧ Below W.heap.size W w'))
    (P : Hid (∀ W, Below w.heap.size w W → Calls Try.prog 8 #[.agg #[.int .i64 c, .int .i64 i, .int .i64 a, v]] W fun e w' => e = .returned (.tuple #[.string ⟨#[]⟩, .int .i64 k]) ∧ Below W.heap.size W w')) :
    Calls Try.prog 4 #[.agg #[.int .i64 c, .int .i64 i, .int .i64 a, v], .string more] w fun e w' => e = .returned (.bool true) ∧ Below w.heap.size w w' := by
  have X0 := Lib.hid (Box.new w [.int .i64 c, .int .i64 i, .int .i64 a, v] 24)
  have B0 := Lib.hid ((Below.refl w.heap.size w).alloc (Nat.le_refl _) (.cells #[.int .i64 c, .int .i64 i, .int .i64 a, v] 24))
  go_enter Try.func4, Try.ntmps4
  go_wp2_with fail
  refine (A.out _).mono ?_
  rintro e w1 ⟨rfl, hb1⟩
  have X1 := X0.out.below hb1
  have B1 := Lib.hid (bel2 B0.out hb1)
  have k0 := X1 0 _ rfl
  have k1 := X1 1 _ rfl
  have k2 := X1 2 _ rfl
  have k3 := X1 3 _ rfl
  clear hb1 X1
  go_wp2_with fail
  refine (P.out _ B1.out).mono ?_
  rintro e w2 ⟨rfl, hb2⟩
  have B2 := Lib.hid (bel2 B1.out hb2)
  clear hb2 k0 k1 k2 k3
  go_wp2_with (go_at_call 12; refine (num_any _ _).mono ?_; rintro e w9 ⟨rfl, rfl⟩)
  go_ret
  exact ⟨rfl, B2.out⟩
set_option maxHeartbeats 3200000 in
theorem back_good (c i a : Int) (os : List Opt.Op) (x : Option Addr) (cap : Nat) (S ml U : List UInt8) (C : ByteArray) (r : Bap.Bp) (w : World) (hS : 1 ≤ S.length) (hS2 : S.length ≤ 2048)
    (r1 : Sums S ml U) (hcut : (ByteArray.mk S.toArray).extract 0 (S.length - 1) = C)
    (R : Hid (ReadsO w (.slice x os.length cap) os))
    (A : Hid (∀ W, Calls Try.prog 16 #[] W fun e w' => e = .returned (.bool true) ∧ Below W.heap.size W w'))
    (P : Hid (∀ W, Below w.heap.size w W → Calls Try.prog 8 #[.agg #[.int .i64 c, .int .i64 i, .int .i64 a, .slice x os.length cap]] W fun e w' => e = .returned (.tuple #[.string ⟨S.toArray⟩, .int .i64 0]) ∧ Below W.heap.size W w'))
    (G : Hid (∀ W, Calls Try.prog 10 #[.string ⟨U.toArray⟩] W fun e w' => ∃ v, e = .returned (.tuple #[.agg #[.int .i64 c, .int .i64 i, .int .i64 a, v], .int .i64 0]) ∧ OwnsO W w' v os))
    (G2 : Hid (∀ W, Calls Try.prog 10 #[.string C] W (BpPost (r, 900) W)))
    (SM : Hid (∀ W va vb, ReadsO W va os → ReadsO W vb os → Calls Try.prog 13 #[.agg #[.int .i64 c, .int .i64 i, .int .i64 a, va], .agg #[.int .i64 c, .int .i64 i, .int .i64 a, vb]] W fun e w' => e = .returned (.bool true) ∧ Below W.heap.size W w')) :
    Calls Try.prog 4 #[.agg #[.int .i64 c, .int .i64 i, .int .i64 a, .slice x os.length cap], .string ⟨ml.toArray⟩] w fun e w' => e = .returned (.bool true) ∧ Below w.heap.size w w' := by
  unfold Sums at r1
  have X0 := Lib.hid (Box.new w [.int .i64 c, .int .i64 i, .int .i64 a, .slice x os.length cap] 24)
  have B0 := Lib.hid ((Below.refl w.heap.size w).alloc (Nat.le_refl _) (.cells #[.int .i64 c, .int .i64 i, .int .i64 a, .slice x os.length cap] 24))
  have q1 : (0 : Int) ≤ (S.length : Int) - 1 := by omega
  have q2 : ((S.length : Int) - 1).toNat = S.length - 1 := by omega
  have q3 : (S.length : Int) - 1 ≤ (S.length : Int) := by omega
  go_enter Try.func4, Try.ntmps4
  go_wp2_with fail
  refine (A.out _).mono ?_
  rintro e w1 ⟨rfl, hb1⟩
  have X1 := Lib.hid (X0.out.below hb1)
  have B1 := Lib.hid (bel2 B0.out hb1)
  have k0 := X1.out 0 _ rfl
  have k1 := X1.out 1 _ rfl
  have k2 := X1.out 2 _ rfl
  have k3 := X1.out 3 _ rfl
  clear hb1
  go_wp2_with fail
  refine (P.out _ B1.out).mono ?_
  rintro e w2 ⟨rfl, hb2⟩
  have B2 := Lib.hid (bel2 B1.out hb2)
  have X2 := Lib.hid (X1.out.below hb2)
  clear hb2 k0 k1 k2 k3
  go_wp2_with (go_at_call 12; refine (num_any _ _).mono ?_; rintro e w9 ⟨rfl, rfl⟩)
  refine (G.out _).mono ?_
  rintro e w3 ⟨v3, rfl, ho3⟩
  obtain ⟨p3, cap3, rfl⟩ := ho3.form2
  have B3 := Lib.hid (bel2 B2.out ho3.2)
  have X3 := Lib.hid (X2.out.below ho3.2)
  have Q3 := Lib.hid ho3.reads
  have Y3 := Lib.hid (Box.new w3 [.int .i64 c, .int .i64 i, .int .i64 a, .slice p3 os.length cap3] 24)
  clear ho3
  go_wp2_with fail
  refine (G2.out _).mono ?_
  rintro e w4 ⟨v4, rfl, ho4⟩
  obtain ⟨p4, cap4, rfl⟩ := ho4.form2
  have H4 := Lib.hid (bel2 (bel2 ((Below.refl w3.heap.size w3).alloc (Nat.le_refl _) (.cells #[.int .i64 c, .int .i64 i, .int .i64 a, .slice p3 os.length cap3] 24)) ho4.2) ((Below.refl w4.heap.size w4).alloc (Nat.le_refl _) (.cells #[.int .i64 r.1, .int .i64 r.2.1, .int .i64 r.2.2.1, .slice p4 r.2.2.2.length cap4] 24)))
  have Y4 := Lib.hid (Y3.out.below ho4.2)
  have X4 := Lib.hid ((X3.out.alloc (.cells #[.int .i64 c, .int .i64 i, .int .i64 a, .slice p3 os.length cap3] 24)).below ho4.2)
  clear ho4
  have B5 := Lib.hid (bel2 B3.out H4.out)
  have Q5 := Lib.hid (Q3.out.below H4.out)
  have R5 := Lib.hid (R.out.below B5.out)
  have z0 := X4.out.lt
  have z1 := Y4.out.lt
  have k0 := X4.out 0 _ rfl
  have k1 := X4.out 1 _ rfl
  have k2 := X4.out 2 _ rfl
  have k3 := X4.out 3 _ rfl
  have m0 := Y4.out 0 _ rfl
  have m1 := Y4.out 1 _ rfl
  have m2 := Y4.out 2 _ rfl
  have m3 := Y4.out 3 _ rfl
  go_wp2_with (first | (go_at_call 12; refine (num_any _ _).mono ?_; rintro e w9 ⟨rfl, rfl⟩) | (go_at_call 13; refine (SM.out _ _ _ Q5.out R5.out).mono ?_; rintro e w6 ⟨rfl, hb6⟩; have B6 := Lib.hid (bel2 B5.out hb6); clear hb6))
  go_ret
  exact ⟨rfl, B6.out⟩
theorem walk_back (c i a : Int) (v : Value) (os : List Opt.Op) (more : ByteArray) (w : World) (hr : ReadsO w v os) (hl : os.length * 24 ≤ 140737488351232) (_ : ∀ o ∈ os, o.2.length ≤ 140737488351232) (hm : more.size ≤ 140737488351232) :
    Calls Try.prog 4 #[.agg #[.int .i64 c, .int .i64 i, .int .i64 a, v], .string more] w fun e w' => e = .returned (.bool true) ∧ Below w.heap.size w w' := by
  have hl2 : os.length ≤ 4611686018427387904 := by omega
  have A := Lib.hid fun W => awake_any W
  obtain ⟨ml, rfl⟩ : ∃ ml : List UInt8, more = ⟨ml.toArray⟩ := ⟨more.data.toList, by simp⟩
  rw [sz] at hm
  have P : ∀ W, Below w.heap.size w W → _ := fun W hb => bput_any c i a v os W (hr.below hb) hl2
  by_cases he : Bap.code (c, i, a, os) = 0
  · rw [he] at P
    have hlen : (Bap.put (c, i, a, os)).length ≤ 2048 ∧ 1 ≤ (Bap.put (c, i, a, os)).length := by
      have := Bap.code_size _ he
      rw [Bap.put_good _ he, Bap.wire_length]
      omega
    have hback := Bap.get_wire (c, i, a, os) ml he
    have hcut := Bap.get_cut (c, i, a, os) he
    rw [← Bap.put_good _ he] at hback hcut
    generalize Bap.put (c, i, a, os) = S at *
    obtain ⟨x, cap, b, off, rfl, _⟩ := hr.at
    refine back_good c i a os x cap S ml (S ++ ml) ⟨(S.take (S.length - 1)).toArray⟩ (Bap.get (S.take (S.length - 1))).1 w hlen.2 hlen.1 (sums _ _ (by omega)) (cut_list S 0 _) (Lib.hid hr) A (Lib.hid P) (Lib.hid fun W => ?_) (Lib.hid fun W => ?_) (Lib.hid fun W va vb ha hb => sameb_any c i a va vb _ W ha hb hl2)
    · have h := bget_any (S ++ ml) W (by rw [List.length_append]; omega)
      rwa [hback] at h
    · have h := bget_any (S.take (S.length - 1)) W (by rw [List.length_take]; omega)
      have e : Bap.get (S.take (S.length - 1)) = ((Bap.get (S.take (S.length - 1))).1, 900) := by rw [← hcut]
      rwa [e] at h
  · rw [Bap.put_bad _ he] at P
    exact back_bad c i a _ v _ w (by simpa using he) A (Lib.hid P)
end Go.Proofs.Ytmonoicdejallaa.Z
