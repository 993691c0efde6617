/-
  The walk of the law of one fragment in both forms.
-/
import Derived.Test.YtlolnbmdjnnkjaaDA
import Derived.Test.YtlolnbmdjnnkjaaMasks
import Derived.Deep.DeepCutAuto
namespace Go.Proofs.Ytlolnbmdjnnkjaa.D
open Go.RowKit
theorem cut_three (s : ByteArray) (h : 300 < s.size) : ∃ dl : List UInt8, s.extract 0 300 = ⟨dl.toArray⟩ ∧ dl.length = 300 := by
  obtain ⟨l, rfl⟩ : ∃ l : List UInt8, s = ⟨l.toArray⟩ := ⟨s.data.toList, by simp⟩
  rw [sz] at h
  exact ⟨l.take 300, cut_list l 0 300, by rw [List.length_take]; omega⟩
set_option maxRecDepth 100000 in
set_option maxHeartbeats 3200000 in
theorem forms_walk (z q : Int) (b e : Bool) (s A C : ByteArray) (m : List UInt8) (w : World) (hq : bits BinOp.and IntKind.i64 z 4095 = q) (hm : (m.length : Int) ≤ 300)
    (l1 : ((A.size : Int) != (m.length : Int) + 2) = false) (l2 : ((C.size : Int) != (m.length : Int) + 4) = false) (a2 : (2 : Int) ≤ (A.size : Int)) (c4 : (4 : Int) ≤ (C.size : Int)) (tA : A.extract 2 A.size = ⟨m.toArray⟩) (tC : C.extract 4 C.size = ⟨m.toArray⟩)
    (HM : Hid (s.size ≤ 300 ∧ s = ⟨m.toArray⟩ ∨ 300 < s.size ∧ s.extract 0 300 = ⟨m.toArray⟩))
    (AW : Hid (∀ W, Calls Try.prog 12 #[] W fun e w' => e = .returned (.bool true) ∧ Below W.heap.size W w'))
    (P1 : Hid (∀ W, Calls Try.prog 7 #[.agg #[.bool b, .bool e, .int .i64 q, .string ⟨m.toArray⟩], .bool true] W fun e w' => e = .returned (.tuple #[.string A, .int .i64 0]) ∧ Below W.heap.size W w'))
    (P2 : Hid (∀ W, Calls Try.prog 7 #[.agg #[.bool b, .bool e, .int .i64 q, .string ⟨m.toArray⟩], .bool false] W fun e w' => e = .returned (.tuple #[.string C, .int .i64 0]) ∧ Below W.heap.size W w'))
    (G1 : Hid (∀ W, Calls Try.prog 9 #[.string A, .bool true] W (FragPost ((b, e, q, m), 0) W)))
    (G2 : Hid (∀ W, Calls Try.prog 9 #[.string C, .bool false] W (FragPost ((b, e, q, m), 0) W))) :
    Calls Try.prog 6 #[.int .i64 z, .bool b, .bool e, .string s] w fun e w' => e = .returned (.bool true) ∧ Below w.heap.size w w' := by
  have EQ := eqF_yes b e q m
  have E1 := EQ.1
  have E2 := EQ.2.2
  have E3 := guardF
  clear EQ
  go_enter Try.func6, Try.ntmps6
  go_wp2_with fail
  refine (AW.out _).mono ?_
  rintro r w1 ⟨rfl, hb1⟩
  have B1 := Lib.hid hb1
  clear hb1
  go_upto_if 24 with (fail)
  go_cut [9] (fun t wx => t = .string ⟨m.toArray⟩ ∧ w1 = wx)
  case first =>
    clear P1 P2 G1 G2 E1 E2 tA tC
    rcases HM.out with ⟨h1, h2⟩ | ⟨h1, h2⟩
    · subst h2
      clear HM
      go_wp2_with fail
      go_meet
      case rel => exact ⟨rfl, rfl⟩
    · clear HM
      go_wp2_with fail
      go_meet
      case rel => exact ⟨rfl, rfl⟩
  case rest =>
    obtain ⟨rfl, rfl⟩ := hcut
    clear HM
    have X1 := Lib.hid (Box.new w1 [.bool b, .bool e, .int .i64 q, .string ⟨m.toArray⟩] 23)
    have BB1 := Lib.hid (bel2 B1.out ((Below.refl w1.heap.size w1).alloc (Nat.le_refl _) (.cells #[.bool b, .bool e, .int .i64 q, .string ⟨m.toArray⟩] 23)))
    go_wp2_with fail
    refine (P1.out _).mono ?_
    rintro r w2 ⟨rfl, hb2⟩
    have X2 := Lib.hid (X1.out.below hb2)
    have B2 := Lib.hid (bel2 BB1.out hb2)
    have k0 := X2.out 0 _ rfl
    have k1 := X2.out 1 _ rfl
    have k2 := X2.out 2 _ rfl
    have k3 := X2.out 3 _ rfl
    clear hb2
    go_wp2_with fail
    clear k0 k1 k2 k3
    refine (P2.out _).mono ?_
    rintro r w3 ⟨rfl, hb3⟩
    have X3 := Lib.hid (X2.out.below hb3)
    have B3 := Lib.hid (bel2 B2.out hb3)
    clear hb3
    go_wp2_with (go_at_call 11; refine (num_any _ _).mono ?_; rintro r w9 ⟨rfl, rfl⟩)
    refine (G1.out _).mono ?_
    rintro r w4 ⟨rfl, hb4⟩
    have X4 := Lib.hid ((X3.out.below hb4).alloc (.cells #[.bool b, .bool e, .int .i64 q, .string ⟨m.toArray⟩] 23))
    have Y4 := Lib.hid (Box.new w4 [.bool b, .bool e, .int .i64 q, .string ⟨m.toArray⟩] 23)
    have B4 := Lib.hid (bel2 (bel2 B3.out hb4) ((Below.refl w4.heap.size w4).alloc (Nat.le_refl _) (.cells #[.bool b, .bool e, .int .i64 q, .string ⟨m.toArray⟩] 23)))
    clear hb4
    go_wp2_with fail
    refine (G2.out _).mono ?_
    rintro r w5 ⟨rfl, hb5⟩
    have X5 := X4.out.below hb5
    have Y5 := Y4.out.below hb5
    have B5 := Lib.hid (bel2 (bel2 B4.out hb5) ((Below.refl w5.heap.size w5).alloc (Nat.le_refl _) (.cells #[.bool b, .bool e, .int .i64 q, .string ⟨m.toArray⟩] 23)))
    have z0 := X5.lt
    have z1 := Y5.lt
    have k0 := X5 0 _ rfl
    have k1 := X5 1 _ rfl
    have k2 := X5 2 _ rfl
    have k3 := X5 3 _ rfl
    have m0 := Y5 0 _ rfl
    have m1 := Y5 1 _ rfl
    have m2 := Y5 2 _ rfl
    have m3 := Y5 3 _ rfl
    clear hb5 X5 Y5
    go_wp2_with (go_at_call 11; refine (num_any _ _).mono ?_; rintro r w9 ⟨rfl, rfl⟩)
    go_ret
    exact ⟨rfl, B5.out⟩
theorem walk_forms (z : Int) (b e : Bool) (s : ByteArray) (w : World) (_ : (Lit.int .i64 z).wf = true) (_ : s.size ≤ maxLen) :
    Calls Try.prog 6 #[.int .i64 z, .bool b, .bool e, .string s] w fun e w' => e = .returned (.bool true) ∧ Below w.heap.size w w' := by
  obtain ⟨q, hq, hq5⟩ := low_bits z 12 (by decide)
  obtain ⟨m, hm, hm1⟩ : ∃ m : List UInt8, (s.size ≤ 300 ∧ s = ⟨m.toArray⟩ ∨ 300 < s.size ∧ s.extract 0 300 = ⟨m.toArray⟩) ∧ m.length ≤ 300 := by
    by_cases h : 300 < s.size
    · obtain ⟨m, h1, h2⟩ := cut_three s h
      exact ⟨m, .inr ⟨h, h1⟩, by omega⟩
    · refine ⟨s.data.toList, .inl ⟨by omega, by simp⟩, ?_⟩
      have e : s.data.toList.length = s.size := by simp
      omega
  have gs : Mph.good true (q : Int) m = true := (Mph.good_iff _ _ _).2 ⟨by omega, by show (q : Int) < ((4096 : Nat) : Int); omega, by omega⟩
  have gl : Mph.good false (q : Int) m = true := (Mph.good_iff _ _ _).2 ⟨by omega, by show (q : Int) < ((16777216 : Nat) : Int); omega, by omega⟩
  obtain ⟨p1, c1⟩ := Mph.put_good true b e (q : Int) m gs
  obtain ⟨p2, c2⟩ := Mph.put_good false b e (q : Int) m gl
  have h1 := Mph.head_length true b e (q : Int).toNat
  have h2 := Mph.head_length false b e (q : Int).toNat
  have P1 := fun W => dput_any true b e q m W
  have P2 := fun W => dput_any false b e q m W
  have G1 := fun W => dget_any true (Mph.put true (b, e, (q : Int), m)) W
  have G2 := fun W => dget_any false (Mph.put false (b, e, (q : Int), m)) W
  rw [Mph.get_put _ _ _ _ _ gs] at G1
  rw [Mph.get_put _ _ _ _ _ gl] at G2
  rw [c1] at P1
  rw [c2] at P2
  have n1 : (Mph.put true (b, e, (q : Int), m)).length = m.length + 2 := by rw [p1, List.length_append, h1, show Mph.size true = 2 from rfl]; omega
  have n2 : (Mph.put false (b, e, (q : Int), m)).length = m.length + 4 := by rw [p2, List.length_append, h2, show Mph.size false = 4 from rfl]; omega
  have t1 : (Mph.put true (b, e, (q : Int), m)).drop 2 = m := by rw [p1, ← show (Mph.head true b e (q : Int).toNat).length = 2 from h1]; exact List.drop_left
  have t2 : (Mph.put false (b, e, (q : Int), m)).drop 4 = m := by rw [p2, ← show (Mph.head false b e (q : Int).toNat).length = 4 from h2]; exact List.drop_left
  generalize Mph.put true (b, e, (q : Int), m) = A at *
  generalize Mph.put false (b, e, (q : Int), m) = C at *
  refine forms_walk z q b e s ⟨A.toArray⟩ ⟨C.toArray⟩ m w hq (by omega) ?_ ?_ (by rw [sz]; omega) (by rw [sz]; omega) (by rw [tail_list, t1]) (by rw [tail_list, t2]) (Lib.hid hm) (Lib.hid fun W => awake_any W) (Lib.hid P1) (Lib.hid P2) (Lib.hid G1) (Lib.hid G2)
  · rw [sz, n1]; simp
  · rw [sz, n2]; simp
end Go.Proofs.Ytlolnbmdjnnkjaa.D
