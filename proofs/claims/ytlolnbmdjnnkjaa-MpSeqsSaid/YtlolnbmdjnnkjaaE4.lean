/-
  The walk of the law of which numbers a fragment may have, in each form.
-/
import Derived.Test.YtlolnbmdjnnkjaaDA
import Derived.Test.YtlolnbmdjnnkjaaD7
import Derived.Test.YtlolnbmdjnnkjaaD9
import Derived.Test.YtlolnbmdjnnkjaaBytes
namespace Go.Proofs.Ytlolnbmdjnnkjaa.D
open Go.RowKit
set_option maxRecDepth 100000 in
set_option maxHeartbeats 800000 in
theorem seqs_neg_s (z : Int) (b e : Bool) (w : World) (hz : z < 0)
    (AW : Hid (∀ W, Calls Try.prog 12 #[] W fun e w' => e = .returned (.bool true) ∧ Below W.heap.size W w'))
    (PUT : Hid (∀ W, Calls Try.prog 7 #[.agg #[.bool b, .bool e, .int .i64 z, .string ⟨#[100]⟩], .bool true] W fun e w' => e = .returned (.tuple #[.string ⟨#[]⟩, .int .i64 801]) ∧ Below W.heap.size W w')) :
    Calls Try.prog 5 #[.int .i64 z, .bool b, .bool e, .bool true] w fun e w' => e = .returned (.bool true) ∧ Below w.heap.size w w' := by
  go_enter Try.func5, Try.ntmps5
  go_wp2_with fail
  refine (AW.out _).mono ?_
  rintro r w1 ⟨rfl, hb1⟩
  have B1 := Lib.hid hb1
  clear hb1
  go_wp2_with fail
  refine (PUT.out _).mono ?_
  rintro r w2 ⟨rfl, hb2⟩
  have B2 := Lib.hid (bel2 B1.out hb2)
  clear hb2
  go_wp2_with (go_at_call 11; refine (num_any _ _).mono ?_; rintro r w9 ⟨rfl, rfl⟩)
  go_ret
  exact ⟨rfl, B2.out⟩
set_option maxRecDepth 100000 in
set_option maxHeartbeats 800000 in
theorem seqs_over_s (z : Int) (b e : Bool) (w : World) (h0 : 0 ≤ z) (hz : 4095 < z)
    (AW : Hid (∀ W, Calls Try.prog 12 #[] W fun e w' => e = .returned (.bool true) ∧ Below W.heap.size W w'))
    (PUT : Hid (∀ W, Calls Try.prog 7 #[.agg #[.bool b, .bool e, .int .i64 z, .string ⟨#[100]⟩], .bool true] W fun e w' => e = .returned (.tuple #[.string ⟨#[]⟩, .int .i64 801]) ∧ Below W.heap.size W w')) :
    Calls Try.prog 5 #[.int .i64 z, .bool b, .bool e, .bool true] w fun e w' => e = .returned (.bool true) ∧ Below w.heap.size w w' := by
  go_enter Try.func5, Try.ntmps5
  go_wp2_with fail
  refine (AW.out _).mono ?_
  rintro r w1 ⟨rfl, hb1⟩
  have B1 := Lib.hid hb1
  clear hb1
  go_wp2_with fail
  refine (PUT.out _).mono ?_
  rintro r w2 ⟨rfl, hb2⟩
  have B2 := Lib.hid (bel2 B1.out hb2)
  clear hb2
  go_wp2_with (go_at_call 11; refine (num_any _ _).mono ?_; rintro r w9 ⟨rfl, rfl⟩)
  go_ret
  exact ⟨rfl, B2.out⟩
set_option maxRecDepth 100000 in
set_option maxHeartbeats 3200000 in
theorem seqs_good_s (z m1 m2 : Int) (b e : Bool) (x y : UInt8) (S L : List UInt8) (U C1 C2 : ByteArray) (w : World) (h0 : 0 ≤ z) (hz : z ≤ 4095) (hU : U = ⟨S.toArray⟩) (hs : U.size = 3) (hx0 : U[0]'(by omega) = x) (hS : S.length = 3) (hS0 : S.getD 0 0 = x) (hL : S.set 0 y = L)
    (a1 : bits BinOp.and .u8 (x.toNat : Int) 128 = m1) (f1 : (m1 != 0) = b) (a2 : bits BinOp.and .u8 (x.toNat : Int) 64 = m2) (f2 : (m2 != 0) = e) (a3 : bits BinOp.or .u8 (x.toNat : Int) 32 = (y.toNat : Int)) (c1 : U.extract 0 1 = C1) (c2 : U.extract 0 2 = C2)
    (AW : Hid (∀ W, Calls Try.prog 12 #[] W fun e w' => e = .returned (.bool true) ∧ Below W.heap.size W w'))
    (PUT : Hid (∀ W, Calls Try.prog 7 #[.agg #[.bool b, .bool e, .int .i64 z, .string ⟨#[100]⟩], .bool true] W fun e w' => e = .returned (.tuple #[.string U, .int .i64 0]) ∧ Below W.heap.size W w'))
    (G1 : Hid (∀ W, Calls Try.prog 9 #[.string ⟨L.toArray⟩, .bool true] W (FragPost (Mph.zero, 800) W)))
    (G2 : Hid (∀ W, Calls Try.prog 9 #[.string C1, .bool true] W (FragPost (Mph.zero, 800) W)))
    (G3 : Hid (∀ W, Calls Try.prog 9 #[.string C2, .bool true] W (FragPost ((b, e, z, []), 0) W))) :
    Calls Try.prog 5 #[.int .i64 z, .bool b, .bool e, .bool true] w fun e w' => e = .returned (.bool true) ∧ Below w.heap.size w w' := by
  have hsi : (U.size : Int) = 3 := by omega
  have p0 : 0 < U.size := by omega
  have q0 : (0 : Int) < (U.size : Int) := by omega
  have q1 : (1 : Int) ≤ (U.size : Int) := by omega
  have q2 : (2 : Int) ≤ (U.size : Int) := by omega
  go_enter Try.func5, Try.ntmps5
  go_wp2_with fail
  refine (AW.out _).mono ?_
  rintro r w1 ⟨rfl, hb1⟩
  have B1 := Lib.hid hb1
  clear hb1
  go_wp2_with fail
  refine (PUT.out _).mono ?_
  rintro r w2 ⟨rfl, hb2⟩
  have B2 := Lib.hid (bel2 B1.out hb2)
  clear hb2
  obtain ⟨cap, W0, hbs, hb3, hho, hlt0⟩ := bytes_open w2 S
  rw [← hU, hS] at hbs
  have B3 := Lib.hid (bel2 B2.out hb3)
  have hc8 := (hho 0 (by omega)).1
  have hf8 := (hho 0 (by omega)).2
  rw [hS0] at hc8
  have h2 := hho.set 0 (by omega) y
  rw [hL] at h2
  have hLn : L.length = 3 := by rw [← hL, List.length_set, hS]
  have hbk := h2.back cap
  rw [hLn] at hbk
  have B4 := Lib.hid (B3.out.setCell (p := ⟨w2.heap.size, 0, none⟩) B2.out.size (.int .u8 (y.toNat : Int)))
  clear hho hb3 h2 hLn hL hS hS0 hU
  go_wp2_with (go_at_call 11; refine (num_any _ _).mono ?_; rintro r w9 ⟨rfl, rfl⟩)
  refine (G1.out _).mono ?_
  rintro r w4 ⟨rfl, hb4⟩
  have B5 := Lib.hid (bel2 (bel2 B4.out hb4) ((Below.refl w4.heap.size w4).alloc (Nat.le_refl _) (.cells #[.bool false, .bool false, .int .i64 0, .string ⟨#[]⟩] 23)))
  clear hb4
  go_wp2_with fail
  refine (G2.out _).mono ?_
  rintro r w5 ⟨rfl, hb5⟩
  have B6 := Lib.hid (bel2 (bel2 B5.out hb5) ((Below.refl w5.heap.size w5).alloc (Nat.le_refl _) (.cells #[.bool false, .bool false, .int .i64 0, .string ⟨#[]⟩] 23)))
  clear hb5
  go_wp2_with fail
  refine (G3.out _).mono ?_
  rintro r w6 ⟨rfl, hb6⟩
  have B7 := Lib.hid (bel2 (bel2 B6.out hb6) ((Below.refl w6.heap.size w6).alloc (Nat.le_refl _) (.cells #[.bool b, .bool e, .int .i64 z, .string ⟨#[]⟩] 23)))
  clear hb6
  go_wp2_with (go_at_call 11; refine (num_any _ _).mono ?_; rintro r w9 ⟨rfl, rfl⟩)
  go_ret
  exact ⟨rfl, B7.out⟩
set_option maxRecDepth 100000 in
set_option maxHeartbeats 800000 in
theorem seqs_neg_l (z : Int) (b e : Bool) (w : World) (hz : z < 0)
    (AW : Hid (∀ W, Calls Try.prog 12 #[] W fun e w' => e = .returned (.bool true) ∧ Below W.heap.size W w'))
    (PUT : Hid (∀ W, Calls Try.prog 7 #[.agg #[.bool b, .bool e, .int .i64 z, .string ⟨#[100]⟩], .bool false] W fun e w' => e = .returned (.tuple #[.string ⟨#[]⟩, .int .i64 801]) ∧ Below W.heap.size W w')) :
    Calls Try.prog 5 #[.int .i64 z, .bool b, .bool e, .bool false] w fun e w' => e = .returned (.bool true) ∧ Below w.heap.size w w' := by
  go_enter Try.func5, Try.ntmps5
  go_wp2_with fail
  refine (AW.out _).mono ?_
  rintro r w1 ⟨rfl, hb1⟩
  have B1 := Lib.hid hb1
  clear hb1
  go_wp2_with fail
  refine (PUT.out _).mono ?_
  rintro r w2 ⟨rfl, hb2⟩
  have B2 := Lib.hid (bel2 B1.out hb2)
  clear hb2
  go_wp2_with (go_at_call 11; refine (num_any _ _).mono ?_; rintro r w9 ⟨rfl, rfl⟩)
  go_ret
  exact ⟨rfl, B2.out⟩
set_option maxRecDepth 100000 in
set_option maxHeartbeats 800000 in
theorem seqs_over_l (z : Int) (b e : Bool) (w : World) (h0 : 0 ≤ z) (hz : 16777215 < z)
    (AW : Hid (∀ W, Calls Try.prog 12 #[] W fun e w' => e = .returned (.bool true) ∧ Below W.heap.size W w'))
    (PUT : Hid (∀ W, Calls Try.prog 7 #[.agg #[.bool b, .bool e, .int .i64 z, .string ⟨#[100]⟩], .bool false] W fun e w' => e = .returned (.tuple #[.string ⟨#[]⟩, .int .i64 801]) ∧ Below W.heap.size W w')) :
    Calls Try.prog 5 #[.int .i64 z, .bool b, .bool e, .bool false] w fun e w' => e = .returned (.bool true) ∧ Below w.heap.size w w' := by
  go_enter Try.func5, Try.ntmps5
  go_wp2_with fail
  refine (AW.out _).mono ?_
  rintro r w1 ⟨rfl, hb1⟩
  have B1 := Lib.hid hb1
  clear hb1
  go_wp2_with fail
  refine (PUT.out _).mono ?_
  rintro r w2 ⟨rfl, hb2⟩
  have B2 := Lib.hid (bel2 B1.out hb2)
  clear hb2
  go_wp2_with (go_at_call 11; refine (num_any _ _).mono ?_; rintro r w9 ⟨rfl, rfl⟩)
  go_ret
  exact ⟨rfl, B2.out⟩
set_option maxRecDepth 100000 in
set_option maxHeartbeats 3200000 in
theorem seqs_good_l (z m1 m2 : Int) (b e : Bool) (x y : UInt8) (S L : List UInt8) (U C1 C2 : ByteArray) (w : World) (h0 : 0 ≤ z) (hz : z ≤ 16777215) (hU : U = ⟨S.toArray⟩) (hs : U.size = 5) (hx0 : U[0]'(by omega) = x) (hS : S.length = 5) (hS0 : S.getD 0 0 = x) (hL : S.set 0 y = L)
    (a1 : bits BinOp.and .u8 (x.toNat : Int) 128 = m1) (f1 : (m1 != 0) = b) (a2 : bits BinOp.and .u8 (x.toNat : Int) 64 = m2) (f2 : (m2 != 0) = e) (a3 : bits BinOp.or .u8 (x.toNat : Int) 32 = (y.toNat : Int)) (c1 : U.extract 0 3 = C1) (c2 : U.extract 0 4 = C2)
    (AW : Hid (∀ W, Calls Try.prog 12 #[] W fun e w' => e = .returned (.bool true) ∧ Below W.heap.size W w'))
    (PUT : Hid (∀ W, Calls Try.prog 7 #[.agg #[.bool b, .bool e, .int .i64 z, .string ⟨#[100]⟩], .bool false] W fun e w' => e = .returned (.tuple #[.string U, .int .i64 0]) ∧ Below W.heap.size W w'))
    (G1 : Hid (∀ W, Calls Try.prog 9 #[.string ⟨L.toArray⟩, .bool false] W (FragPost (Mph.zero, 800) W)))
    (G2 : Hid (∀ W, Calls Try.prog 9 #[.string C1, .bool false] W (FragPost (Mph.zero, 800) W)))
    (G3 : Hid (∀ W, Calls Try.prog 9 #[.string C2, .bool false] W (FragPost ((b, e, z, []), 0) W))) :
    Calls Try.prog 5 #[.int .i64 z, .bool b, .bool e, .bool false] w fun e w' => e = .returned (.bool true) ∧ Below w.heap.size w w' := by
  have hsi : (U.size : Int) = 5 := by omega
  have p0 : 0 < U.size := by omega
  have q0 : (0 : Int) < (U.size : Int) := by omega
  have q1 : (3 : Int) ≤ (U.size : Int) := by omega
  have q2 : (4 : Int) ≤ (U.size : Int) := by omega
  go_enter Try.func5, Try.ntmps5
  go_wp2_with fail
  refine (AW.out _).mono ?_
  rintro r w1 ⟨rfl, hb1⟩
  have B1 := Lib.hid hb1
  clear hb1
  go_wp2_with fail
  refine (PUT.out _).mono ?_
  rintro r w2 ⟨rfl, hb2⟩
  have B2 := Lib.hid (bel2 B1.out hb2)
  clear hb2
  obtain ⟨cap, W0, hbs, hb3, hho, hlt0⟩ := bytes_open w2 S
  rw [← hU, hS] at hbs
  have B3 := Lib.hid (bel2 B2.out hb3)
  have hc8 := (hho 0 (by omega)).1
  have hf8 := (hho 0 (by omega)).2
  rw [hS0] at hc8
  have h2 := hho.set 0 (by omega) y
  rw [hL] at h2
  have hLn : L.length = 5 := by rw [← hL, List.length_set, hS]
  have hbk := h2.back cap
  rw [hLn] at hbk
  have B4 := Lib.hid (B3.out.setCell (p := ⟨w2.heap.size, 0, none⟩) B2.out.size (.int .u8 (y.toNat : Int)))
  clear hho hb3 h2 hLn hL hS hS0 hU
  go_wp2_with (go_at_call 11; refine (num_any _ _).mono ?_; rintro r w9 ⟨rfl, rfl⟩)
  refine (G1.out _).mono ?_
  rintro r w4 ⟨rfl, hb4⟩
  have B5 := Lib.hid (bel2 (bel2 B4.out hb4) ((Below.refl w4.heap.size w4).alloc (Nat.le_refl _) (.cells #[.bool false, .bool false, .int .i64 0, .string ⟨#[]⟩] 23)))
  clear hb4
  go_wp2_with fail
  refine (G2.out _).mono ?_
  rintro r w5 ⟨rfl, hb5⟩
  have B6 := Lib.hid (bel2 (bel2 B5.out hb5) ((Below.refl w5.heap.size w5).alloc (Nat.le_refl _) (.cells #[.bool false, .bool false, .int .i64 0, .string ⟨#[]⟩] 23)))
  clear hb5
  go_wp2_with fail
  refine (G3.out _).mono ?_
  rintro r w6 ⟨rfl, hb6⟩
  have B7 := Lib.hid (bel2 (bel2 B6.out hb6) ((Below.refl w6.heap.size w6).alloc (Nat.le_refl _) (.cells #[.bool b, .bool e, .int .i64 z, .string ⟨#[]⟩] 23)))
  clear hb6
  go_wp2_with (go_at_call 11; refine (num_any _ _).mono ?_; rintro r w9 ⟨rfl, rfl⟩)
  go_ret
  exact ⟨rfl, B7.out⟩
theorem or32 (x : UInt8) : bits BinOp.or .u8 (x.toNat : Int) 32 = ((x ||| 32).toNat : Int) ∧ 32 ≤ (x ||| 32).toNat % 64 := by
  have hx := x.toNat_lt
  have e : (x ||| 32).toNat = x.toNat ||| 32 := UInt8.toNat_or _ _
  rw [e]
  refine ⟨u8_or_nat x.toNat 32 (by omega) (by omega), ?_⟩
  have h1 : (x.toNat ||| 32) &&& 2 ^ 5 = 32 := by
    rw [Nat.and_or_distrib_right, nat_bit 5]
    have : x.toNat / 2 ^ 5 % 2 = 0 ∨ x.toNat / 2 ^ 5 % 2 = 1 := by omega
    rcases this with h | h <;> rw [h] <;> rfl
  rw [nat_bit 5] at h1
  omega
theorem formed_s (x y : UInt8) : Mph.formed true (x.toNat * 256 + y.toNat) ↔ ¬ 16 ≤ x.toNat % 64 := by
  have hx := x.toNat_lt
  have hy := y.toNat_lt
  unfold Mph.formed
  simp only [Mph.unit, Mph.ring, if_true]
  omega
theorem formed_l (x y z u : UInt8) : Mph.formed false (((x.toNat * 256 + y.toNat) * 256 + z.toNat) * 256 + u.toNat) ↔ ¬ 1 ≤ x.toNat % 64 := by
  have hx := x.toNat_lt
  have hy := y.toNat_lt
  have hz := z.toNat_lt
  have hu := u.toNat_lt
  unfold Mph.formed
  simp only [Mph.unit, Mph.ring, Bool.false_eq_true, if_false]
  omega
/-- What the first byte says of the marks. -/
theorem first_byte (b e : Bool) (x : UInt8) (r : Nat) (hr : r < 16) (hx : x.toNat = Mph.mark b e + r) : decide (128 ≤ x.toNat) = b ∧ decide (64 ≤ x.toNat % 128) = e := by
  rw [hx]
  cases b <;> cases e <;> simp [Mph.mark] <;> omega
theorem get_none (short : Bool) (l : List UInt8) (h : ¬ Mph.formed short (Mph.val (l.take (Mph.size short)))) : Mph.get short l = (Mph.zero, 800) := if_pos (.inr h)
theorem get_less (short : Bool) (l : List UInt8) (h : l.length < Mph.size short) : Mph.get short l = (Mph.zero, 800) := if_pos (.inl h)
theorem walk_seqs (z : Int) (b e short : Bool) (w : World) (_ : (Lit.int .i64 z).wf = true) :
    Calls Try.prog 5 #[.int .i64 z, .bool b, .bool e, .bool short] w fun e w' => e = .returned (.bool true) ∧ Below w.heap.size w w' := by
  have AW := Lib.hid fun W => awake_any W
  have P := fun W => dput_any short b e z [100] W
  by_cases h : 0 ≤ z ∧ z < (Mph.ring short : Int)
  · obtain ⟨n, rfl⟩ : ∃ n : Nat, z = (n : Int) := ⟨z.toNat, by omega⟩
    have hg : Mph.good short (n : Int) [100] = true := (Mph.good_iff _ _ _).2 ⟨h.1, h.2, by decide⟩
    obtain ⟨p1, p2⟩ := Mph.put_good short b e (n : Int) [100] hg
    have hn : n < Mph.ring short := by omega
    have h3 := Mph.get_head short b e n [] hn (by decide)
    rw [p2, p1] at P
    rw [Int.toNat_natCast] at P
    rw [List.append_nil] at h3
    have G3 := fun W => dget_any short (Mph.head short b e n) W
    rw [h3] at G3
    have hl := Mph.head_length short b e n
    cases short
    · have hn2 : n < 16777216 := hn
      have e1 := head_long b e n hn2
      generalize Mph.head false b e n = H at *
      subst e1
      have hm : (UInt8.ofNat (Mph.mark b e)).toNat = Mph.mark b e + 0 := by cases b <;> cases e <;> rfl
      generalize UInt8.ofNat (Mph.mark b e) = x at *
      obtain ⟨m1, a1, _, f1⟩ := bit128 x
      obtain ⟨m2, a2, _, f2⟩ := bit64 x
      obtain ⟨a3, a4⟩ := or32 x
      obtain ⟨g1, g2⟩ := first_byte b e x 0 (by omega) hm
      have G1 := fun W => dget_any false ((x ||| 32) :: UInt8.ofNat (n / 65536) :: (twoW n ++ [100])) W
      rw [get_none false _ (by
        show ¬ Mph.formed false (Mph.val (List.take 4 ((x ||| 32) :: UInt8.ofNat (n / 65536) :: UInt8.ofNat (n / 256) :: UInt8.ofNat n :: [100])))
        rw [val4, formed_l]; omega)] at G1
      have G2 := fun W => dget_any false [x, UInt8.ofNat (n / 65536), UInt8.ofNat (n / 256)] W
      rw [get_less false [x, UInt8.ofNat (n / 65536), UInt8.ofNat (n / 256)] (show 3 < 4 by decide)] at G2
      exact seqs_good_l n m1 m2 b e x (x ||| 32) _ _ _ _ _ w h.1 (by omega) rfl rfl rfl rfl rfl rfl a1 (f1.trans g1) a2 (f2.trans g2) a3 (cut_list _ 0 3) (cut_list _ 0 4) AW (Lib.hid P) (Lib.hid G1) (Lib.hid G2) (Lib.hid G3)
    · have hn2 : n < 4096 := hn
      have e1 := head_short b e n
      generalize Mph.head true b e n = H at *
      subst e1
      have hm : (UInt8.ofNat ((Mph.mark b e * 256 + n) / 256)).toNat = Mph.mark b e + n / 256 := by
        cases b <;> cases e <;> simp [Mph.mark] <;> omega
      unfold twoW at *
      generalize UInt8.ofNat ((Mph.mark b e * 256 + n) / 256) = x at *
      generalize UInt8.ofNat (Mph.mark b e * 256 + n) = y at *
      obtain ⟨m1, a1, _, f1⟩ := bit128 x
      obtain ⟨m2, a2, _, f2⟩ := bit64 x
      obtain ⟨a3, a4⟩ := or32 x
      obtain ⟨g1, g2⟩ := first_byte b e x (n / 256) (by omega) hm
      have G1 := fun W => dget_any true ((x ||| 32) :: y :: [100]) W
      rw [get_none true _ (by
        show ¬ Mph.formed true (Mph.val (List.take 2 ((x ||| 32) :: y :: [100])))
        rw [val2, formed_s]; omega)] at G1
      have G2 := fun W => dget_any true [x] W
      rw [get_less true [x] (show 1 < 2 by decide)] at G2
      exact seqs_good_s n m1 m2 b e x (x ||| 32) _ _ _ _ _ w h.1 (by omega) rfl rfl rfl rfl rfl rfl a1 (f1.trans g1) a2 (f2.trans g2) a3 (cut_list _ 0 1) (cut_list _ 0 2) AW (Lib.hid P) (Lib.hid G1) (Lib.hid G2) (Lib.hid G3)
  · obtain ⟨p1, p2⟩ := Mph.put_bad short b e z [100] (by
      cases hg : Mph.good short z [100]
      · rfl
      · have := (Mph.good_iff _ _ _).1 hg
        exact absurd ⟨this.1, this.2.1⟩ h)
    rw [p1, p2] at P
    by_cases h0 : 0 ≤ z
    · cases short
      · have h1 : ¬ z < ((16777216 : Nat) : Int) := fun g => h ⟨h0, g⟩
        exact seqs_over_l z b e w h0 (by omega) AW (Lib.hid P)
      · have h1 : ¬ z < ((4096 : Nat) : Int) := fun g => h ⟨h0, g⟩
        exact seqs_over_s z b e w h0 (by omega) AW (Lib.hid P)
    · cases short
      · exact seqs_neg_l z b e w (by omega) AW (Lib.hid P)
      · exact seqs_neg_s z b e w (by omega) AW (Lib.hid P)
end Go.Proofs.Ytlolnbmdjnnkjaa.D
