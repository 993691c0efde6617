/-
  The walk of the law of other heads.
-/
import Derived.Test.YtnkkompmdngkgaaR9
import Derived.Test.YtnkkompmdngkgaaBytes
namespace Go.Proofs.Ytnkkompmdngkgaa.R
open Go.RowKit
theorem four_cells (x y : UInt8) : (#[Value.int .u8 (x.toNat : Int), Value.int .u8 (y.toNat : Int), Value.int .u8 0, Value.int .u8 33] : Array Value) = (Lib.byteCells [x, y, 0, 33]).toArray := by
  simp [Lib.byteCells]
set_option maxRecDepth 100000 in
set_option maxHeartbeats 3200000 in
theorem heads_right (a b many : Int) (x y : UInt8) (j : Nat) (D Z U : ByteArray) (g : Int) (B X T : List UInt8) (C : Array Value) (w : World)
    (hx : a % 256 = (x.toNat : Int)) (hy : b % 256 = (y.toNat : Int)) (hj : bits BinOp.and .i64 many 3 = (j : Int)) (hj2 : j ≤ 3) (t1 : ((x.toNat : Int) == 255) = true) (t2 : ((y.toNat : Int) == 3) = true)
    (hc1 : Hid (∀ W : World, (convert 45 9 (.slice (some ⟨W.heap.size, 0, none⟩) 4 4)).run Try.prog (W.alloc (.cells #[Value.int .u8 (x.toNat : Int), Value.int .u8 (y.toNat : Int), Value.int .u8 0, Value.int .u8 33] 5)) = .ok (.string ⟨[x, y, 0, 33].toArray⟩) (W.alloc (.cells #[Value.int .u8 (x.toNat : Int), Value.int .u8 (y.toNat : Int), Value.int .u8 0, Value.int .u8 33] 5))))
    (r1 : Sums [x, y, 0, 33] [100, 97, 116, 97] B)
    (hm : Hid (∀ W : World, (Instr.makeSlice 45 (.int .i64 (2047 + (j : Int))) (.int .i64 (2047 + (j : Int)))).run Try.prog W = .ok (.slice (some ⟨W.heap.size, 0, none⟩) (2047 + j) (2047 + j)) (W.alloc (.cells C 5))))
    (hc2 : Hid (∀ W : World, (convert 45 9 (.slice (some ⟨W.heap.size, 0, none⟩) (2047 + j) (2047 + j))).run Try.prog (W.alloc (.cells C 5)) = .ok (.string Z) (W.alloc (.cells C 5))))
    (M : Hid (∀ w, Calls Try.prog 15 #[.string ⟨B.toArray⟩] w fun e w' => e = .returned (.string ⟨X.toArray⟩) ∧ Below w.heap.size w w'))
    (S : Hid (∀ w, Calls Try.prog 14 #[.string ⟨X.toArray⟩, .int .i64 0] w fun e w' => e = .returned (.string ⟨T.toArray⟩) ∧ Below w.heap.size w w'))
    (G : Hid (∀ w, Calls Try.prog 16 #[.string ⟨T.toArray⟩] w fun e w' => e = .returned (.tuple #[.agg #[.int .i64 33, .string D], .int .i64 0]) ∧ Below w.heap.size w w'))
    (P : Hid (∀ w, Calls Try.prog 10 #[.agg #[.int .i64 33, .string Z], .int .i64 0] w fun e w' => e = .returned (.tuple #[.string U, .int .i64 g]) ∧ Below w.heap.size w w'))
    (G2 : Hid (∀ w, Calls Try.prog 16 #[.string ⟨#[97, 98, 99, 100, 101]⟩] w fun e w' => e = .returned (.tuple #[.agg #[.int .i64 0, .string ⟨#[]⟩], .int .i64 300]) ∧ Below w.heap.size w w')) :
    Calls Try.prog 8 #[.int .i64 a, .int .i64 b, .int .i64 many] w fun e w' => e = .returned (.bool true) ∧ Below w.heap.size w w' := by
  unfold Sums at r1
  go_enter Try.func8, Try.ntmps8
  go_wp2_with fail
  refine (awake_any _).mono ?_
  rintro e w0 ⟨rfl, hb0⟩
  have B0 := Lib.hid hb0
  clear hb0
  have c1 := hc1.out w0
  go_wp2_with fail
  refine (M.out _).mono ?_
  rintro e w1 ⟨rfl, hb1⟩
  have B1 := Lib.hid (B0.out.trans (((Below.refl w0.heap.size w0).alloc (Nat.le_refl _) _).trans (hb1.mono (by simp)) |>.mono B0.out.size))
  clear hb1 c1
  go_wp2_with fail
  refine (S.out _).mono ?_
  rintro e w2 ⟨rfl, hb2⟩
  have B2 := Lib.hid (bel2 B1.out hb2)
  clear hb2
  go_wp2_with fail
  refine (G.out _).mono ?_
  rintro e w3 ⟨rfl, hb3⟩
  have B3 := Lib.hid (bel2 B2.out hb3)
  clear hb3
  have m1 := hm.out (w3.alloc (.cells #[.int .i64 33, .string D] 23))
  have c2 := hc2.out (w3.alloc (.cells #[.int .i64 33, .string D] 23))
  have e9 : (w3.alloc (.cells #[.int .i64 33, .string D] 23)).heap.size = w3.heap.size + 1 := by simp
  rw [e9] at c2
  clear e9
  go_wp2_with fail
  refine (P.out _).mono ?_
  rintro e w4 ⟨rfl, hb4⟩
  have H4 := Lib.hid (box_kept (box_alloc (w := w3) (x := .int .i64 33) (y := .string D) ⟨by simp, by simp, by simp, (Below.refl _ _).alloc (Nat.le_refl _) _⟩ _) hb4)
  clear hb4 m1 c2
  go_wp2_with fail
  refine (G2.out _).mono ?_
  rintro e w5 ⟨rfl, hb5⟩
  have H5 := Lib.hid (box_alloc (box_kept H4.out hb5) (.cells #[.int .i64 0, .string ⟨#[]⟩] 23))
  obtain ⟨k0, k1, hz, _⟩ := box_kept H4.out hb5
  clear hb5
  go_wp2_with (go_at_call 12; refine (num_any _ _).mono ?_; rintro e w9 ⟨rfl, rfl⟩)
  go_ret
  exact ⟨rfl, bel2 B3.out H5.out.2.2.2⟩
set_option maxRecDepth 100000 in
set_option maxHeartbeats 3200000 in
theorem heads_first_short (a b many : Int) (x y : UInt8) (j : Nat) (Z U : ByteArray) (B X T : List UInt8) (C : Array Value) (w : World)
    (hx : a % 256 = (x.toNat : Int)) (hy : b % 256 = (y.toNat : Int)) (hj : bits BinOp.and .i64 many 3 = (j : Int)) (hj2 : j ≤ 3) (t1 : ((x.toNat : Int) == 255) = false) (hs : j ≤ 1)
    (hc1 : Hid (∀ W : World, (convert 45 9 (.slice (some ⟨W.heap.size, 0, none⟩) 4 4)).run Try.prog (W.alloc (.cells #[Value.int .u8 (x.toNat : Int), Value.int .u8 (y.toNat : Int), Value.int .u8 0, Value.int .u8 33] 5)) = .ok (.string ⟨[x, y, 0, 33].toArray⟩) (W.alloc (.cells #[Value.int .u8 (x.toNat : Int), Value.int .u8 (y.toNat : Int), Value.int .u8 0, Value.int .u8 33] 5))))
    (r1 : Sums [x, y, 0, 33] [100, 97, 116, 97] B)
    (hm : Hid (∀ W : World, (Instr.makeSlice 45 (.int .i64 (2047 + (j : Int))) (.int .i64 (2047 + (j : Int)))).run Try.prog W = .ok (.slice (some ⟨W.heap.size, 0, none⟩) (2047 + j) (2047 + j)) (W.alloc (.cells C 5))))
    (hc2 : Hid (∀ W : World, (convert 45 9 (.slice (some ⟨W.heap.size, 0, none⟩) (2047 + j) (2047 + j))).run Try.prog (W.alloc (.cells C 5)) = .ok (.string Z) (W.alloc (.cells C 5))))
    (M : Hid (∀ w, Calls Try.prog 15 #[.string ⟨B.toArray⟩] w fun e w' => e = .returned (.string ⟨X.toArray⟩) ∧ Below w.heap.size w w'))
    (S : Hid (∀ w, Calls Try.prog 14 #[.string ⟨X.toArray⟩, .int .i64 0] w fun e w' => e = .returned (.string ⟨T.toArray⟩) ∧ Below w.heap.size w w'))
    (G : Hid (∀ w, Calls Try.prog 16 #[.string ⟨T.toArray⟩] w fun e w' => e = .returned (.tuple #[.agg #[.int .i64 0, .string ⟨#[]⟩], .int .i64 302]) ∧ Below w.heap.size w w'))
    (P : Hid (∀ w, Calls Try.prog 10 #[.agg #[.int .i64 33, .string Z], .int .i64 0] w fun e w' => e = .returned (.tuple #[.string U, .int .i64 0]) ∧ Below w.heap.size w w'))
    (G2 : Hid (∀ w, Calls Try.prog 16 #[.string ⟨#[97, 98, 99, 100, 101]⟩] w fun e w' => e = .returned (.tuple #[.agg #[.int .i64 0, .string ⟨#[]⟩], .int .i64 300]) ∧ Below w.heap.size w w')) :
    Calls Try.prog 8 #[.int .i64 a, .int .i64 b, .int .i64 many] w fun e w' => e = .returned (.bool true) ∧ Below w.heap.size w w' := by
  unfold Sums at r1
  go_enter Try.func8, Try.ntmps8
  go_wp2_with fail
  refine (awake_any _).mono ?_
  rintro e w0 ⟨rfl, hb0⟩
  have B0 := Lib.hid hb0
  clear hb0
  have c1 := hc1.out w0
  go_wp2_with fail
  refine (M.out _).mono ?_
  rintro e w1 ⟨rfl, hb1⟩
  have B1 := Lib.hid (B0.out.trans (((Below.refl w0.heap.size w0).alloc (Nat.le_refl _) _).trans (hb1.mono (by simp)) |>.mono B0.out.size))
  clear hb1 c1
  go_wp2_with fail
  refine (S.out _).mono ?_
  rintro e w2 ⟨rfl, hb2⟩
  have B2 := Lib.hid (bel2 B1.out hb2)
  clear hb2
  go_wp2_with fail
  refine (G.out _).mono ?_
  rintro e w3 ⟨rfl, hb3⟩
  have B3 := Lib.hid (bel2 B2.out hb3)
  clear hb3
  have m1 := hm.out (w3.alloc (.cells #[.int .i64 0, .string ⟨#[]⟩] 23))
  have c2 := hc2.out (w3.alloc (.cells #[.int .i64 0, .string ⟨#[]⟩] 23))
  have e9 : (w3.alloc (.cells #[.int .i64 0, .string ⟨#[]⟩] 23)).heap.size = w3.heap.size + 1 := by simp
  rw [e9] at c2
  clear e9
  go_wp2_with fail
  refine (P.out _).mono ?_
  rintro e w4 ⟨rfl, hb4⟩
  have H4 := Lib.hid (box_kept (box_alloc (w := w3) (x := .int .i64 0) (y := .string ⟨#[]⟩) ⟨by simp, by simp, by simp, (Below.refl _ _).alloc (Nat.le_refl _) _⟩ _) hb4)
  clear hb4 m1 c2
  go_wp2_with fail
  refine (G2.out _).mono ?_
  rintro e w5 ⟨rfl, hb5⟩
  have H5 := Lib.hid (box_alloc (box_kept H4.out hb5) (.cells #[.int .i64 0, .string ⟨#[]⟩] 23))
  obtain ⟨k0, k1, hz, _⟩ := box_kept H4.out hb5
  clear hb5
  go_wp2_with (go_at_call 12; refine (num_any _ _).mono ?_; rintro e w9 ⟨rfl, rfl⟩)
  go_ret
  exact ⟨rfl, bel2 B3.out H5.out.2.2.2⟩
set_option maxRecDepth 100000 in
set_option maxHeartbeats 3200000 in
theorem heads_first_long (a b many : Int) (x y : UInt8) (j : Nat) (Z U : ByteArray) (B X T : List UInt8) (C : Array Value) (w : World)
    (hx : a % 256 = (x.toNat : Int)) (hy : b % 256 = (y.toNat : Int)) (hj : bits BinOp.and .i64 many 3 = (j : Int)) (hj2 : j ≤ 3) (t1 : ((x.toNat : Int) == 255) = false) (hs : 1 < j)
    (hc1 : Hid (∀ W : World, (convert 45 9 (.slice (some ⟨W.heap.size, 0, none⟩) 4 4)).run Try.prog (W.alloc (.cells #[Value.int .u8 (x.toNat : Int), Value.int .u8 (y.toNat : Int), Value.int .u8 0, Value.int .u8 33] 5)) = .ok (.string ⟨[x, y, 0, 33].toArray⟩) (W.alloc (.cells #[Value.int .u8 (x.toNat : Int), Value.int .u8 (y.toNat : Int), Value.int .u8 0, Value.int .u8 33] 5))))
    (r1 : Sums [x, y, 0, 33] [100, 97, 116, 97] B)
    (hm : Hid (∀ W : World, (Instr.makeSlice 45 (.int .i64 (2047 + (j : Int))) (.int .i64 (2047 + (j : Int)))).run Try.prog W = .ok (.slice (some ⟨W.heap.size, 0, none⟩) (2047 + j) (2047 + j)) (W.alloc (.cells C 5))))
    (hc2 : Hid (∀ W : World, (convert 45 9 (.slice (some ⟨W.heap.size, 0, none⟩) (2047 + j) (2047 + j))).run Try.prog (W.alloc (.cells C 5)) = .ok (.string Z) (W.alloc (.cells C 5))))
    (M : Hid (∀ w, Calls Try.prog 15 #[.string ⟨B.toArray⟩] w fun e w' => e = .returned (.string ⟨X.toArray⟩) ∧ Below w.heap.size w w'))
    (S : Hid (∀ w, Calls Try.prog 14 #[.string ⟨X.toArray⟩, .int .i64 0] w fun e w' => e = .returned (.string ⟨T.toArray⟩) ∧ Below w.heap.size w w'))
    (G : Hid (∀ w, Calls Try.prog 16 #[.string ⟨T.toArray⟩] w fun e w' => e = .returned (.tuple #[.agg #[.int .i64 0, .string ⟨#[]⟩], .int .i64 302]) ∧ Below w.heap.size w w'))
    (P : Hid (∀ w, Calls Try.prog 10 #[.agg #[.int .i64 33, .string Z], .int .i64 0] w fun e w' => e = .returned (.tuple #[.string U, .int .i64 304]) ∧ Below w.heap.size w w'))
    (G2 : Hid (∀ w, Calls Try.prog 16 #[.string ⟨#[97, 98, 99, 100, 101]⟩] w fun e w' => e = .returned (.tuple #[.agg #[.int .i64 0, .string ⟨#[]⟩], .int .i64 300]) ∧ Below w.heap.size w w')) :
    Calls Try.prog 8 #[.int .i64 a, .int .i64 b, .int .i64 many] w fun e w' => e = .returned (.bool true) ∧ Below w.heap.size w w' := by
  unfold Sums at r1
  have hq : decide (2047 + (j : Int) ≤ 2048) = false := decide_eq_false (by omega)
  go_enter Try.func8, Try.ntmps8
  go_wp2_with fail
  refine (awake_any _).mono ?_
  rintro e w0 ⟨rfl, hb0⟩
  have B0 := Lib.hid hb0
  clear hb0
  have c1 := hc1.out w0
  go_wp2_with fail
  refine (M.out _).mono ?_
  rintro e w1 ⟨rfl, hb1⟩
  have B1 := Lib.hid (B0.out.trans (((Below.refl w0.heap.size w0).alloc (Nat.le_refl _) _).trans (hb1.mono (by simp)) |>.mono B0.out.size))
  clear hb1 c1
  go_wp2_with fail
  refine (S.out _).mono ?_
  rintro e w2 ⟨rfl, hb2⟩
  have B2 := Lib.hid (bel2 B1.out hb2)
  clear hb2
  go_wp2_with fail
  refine (G.out _).mono ?_
  rintro e w3 ⟨rfl, hb3⟩
  have B3 := Lib.hid (bel2 B2.out hb3)
  clear hb3
  have m1 := hm.out (w3.alloc (.cells #[.int .i64 0, .string ⟨#[]⟩] 23))
  have c2 := hc2.out (w3.alloc (.cells #[.int .i64 0, .string ⟨#[]⟩] 23))
  have e9 : (w3.alloc (.cells #[.int .i64 0, .string ⟨#[]⟩] 23)).heap.size = w3.heap.size + 1 := by simp
  rw [e9] at c2
  clear e9
  go_wp2_with fail
  refine (P.out _).mono ?_
  rintro e w4 ⟨rfl, hb4⟩
  have H4 := Lib.hid (box_kept (box_alloc (w := w3) (x := .int .i64 0) (y := .string ⟨#[]⟩) ⟨by simp, by simp, by simp, (Below.refl _ _).alloc (Nat.le_refl _) _⟩ _) hb4)
  clear hb4 m1 c2
  go_wp2_with fail
  refine (G2.out _).mono ?_
  rintro e w5 ⟨rfl, hb5⟩
  have H5 := Lib.hid (box_alloc (box_kept H4.out hb5) (.cells #[.int .i64 0, .string ⟨#[]⟩] 23))
  obtain ⟨k0, k1, hz, _⟩ := box_kept H4.out hb5
  clear hb5
  go_wp2_with (go_at_call 12; refine (num_any _ _).mono ?_; rintro e w9 ⟨rfl, rfl⟩)
  go_ret
  exact ⟨rfl, bel2 B3.out H5.out.2.2.2⟩
set_option maxRecDepth 100000 in
set_option maxHeartbeats 3200000 in
theorem heads_second_short (a b many : Int) (x y : UInt8) (j : Nat) (Z U : ByteArray) (B X T : List UInt8) (C : Array Value) (w : World)
    (hx : a % 256 = (x.toNat : Int)) (hy : b % 256 = (y.toNat : Int)) (hj : bits BinOp.and .i64 many 3 = (j : Int)) (hj2 : j ≤ 3) (t1 : ((x.toNat : Int) == 255) = true) (t2 : ((y.toNat : Int) == 3) = false) (hs : j ≤ 1)
    (hc1 : Hid (∀ W : World, (convert 45 9 (.slice (some ⟨W.heap.size, 0, none⟩) 4 4)).run Try.prog (W.alloc (.cells #[Value.int .u8 (x.toNat : Int), Value.int .u8 (y.toNat : Int), Value.int .u8 0, Value.int .u8 33] 5)) = .ok (.string ⟨[x, y, 0, 33].toArray⟩) (W.alloc (.cells #[Value.int .u8 (x.toNat : Int), Value.int .u8 (y.toNat : Int), Value.int .u8 0, Value.int .u8 33] 5))))
    (r1 : Sums [x, y, 0, 33] [100, 97, 116, 97] B)
    (hm : Hid (∀ W : World, (Instr.makeSlice 45 (.int .i64 (2047 + (j : Int))) (.int .i64 (2047 + (j : Int)))).run Try.prog W = .ok (.slice (some ⟨W.heap.size, 0, none⟩) (2047 + j) (2047 + j)) (W.alloc (.cells C 5))))
    (hc2 : Hid (∀ W : World, (convert 45 9 (.slice (some ⟨W.heap.size, 0, none⟩) (2047 + j) (2047 + j))).run Try.prog (W.alloc (.cells C 5)) = .ok (.string Z) (W.alloc (.cells C 5))))
    (M : Hid (∀ w, Calls Try.prog 15 #[.string ⟨B.toArray⟩] w fun e w' => e = .returned (.string ⟨X.toArray⟩) ∧ Below w.heap.size w w'))
    (S : Hid (∀ w, Calls Try.prog 14 #[.string ⟨X.toArray⟩, .int .i64 0] w fun e w' => e = .returned (.string ⟨T.toArray⟩) ∧ Below w.heap.size w w'))
    (G : Hid (∀ w, Calls Try.prog 16 #[.string ⟨T.toArray⟩] w fun e w' => e = .returned (.tuple #[.agg #[.int .i64 0, .string ⟨#[]⟩], .int .i64 302]) ∧ Below w.heap.size w w'))
    (P : Hid (∀ w, Calls Try.prog 10 #[.agg #[.int .i64 33, .string Z], .int .i64 0] w fun e w' => e = .returned (.tuple #[.string U, .int .i64 0]) ∧ Below w.heap.size w w'))
    (G2 : Hid (∀ w, Calls Try.prog 16 #[.string ⟨#[97, 98, 99, 100, 101]⟩] w fun e w' => e = .returned (.tuple #[.agg #[.int .i64 0, .string ⟨#[]⟩], .int .i64 300]) ∧ Below w.heap.size w w')) :
    Calls Try.prog 8 #[.int .i64 a, .int .i64 b, .int .i64 many] w fun e w' => e = .returned (.bool true) ∧ Below w.heap.size w w' := by
  unfold Sums at r1
  go_enter Try.func8, Try.ntmps8
  go_wp2_with fail
  refine (awake_any _).mono ?_
  rintro e w0 ⟨rfl, hb0⟩
  have B0 := Lib.hid hb0
  clear hb0
  have c1 := hc1.out w0
  go_wp2_with fail
  refine (M.out _).mono ?_
  rintro e w1 ⟨rfl, hb1⟩
  have B1 := Lib.hid (B0.out.trans (((Below.refl w0.heap.size w0).alloc (Nat.le_refl _) _).trans (hb1.mono (by simp)) |>.mono B0.out.size))
  clear hb1 c1
  go_wp2_with fail
  refine (S.out _).mono ?_
  rintro e w2 ⟨rfl, hb2⟩
  have B2 := Lib.hid (bel2 B1.out hb2)
  clear hb2
  go_wp2_with fail
  refine (G.out _).mono ?_
  rintro e w3 ⟨rfl, hb3⟩
  have B3 := Lib.hid (bel2 B2.out hb3)
  clear hb3
  have m1 := hm.out (w3.alloc (.cells #[.int .i64 0, .string ⟨#[]⟩] 23))
  have c2 := hc2.out (w3.alloc (.cells #[.int .i64 0, .string ⟨#[]⟩] 23))
  have e9 : (w3.alloc (.cells #[.int .i64 0, .string ⟨#[]⟩] 23)).heap.size = w3.heap.size + 1 := by simp
  rw [e9] at c2
  clear e9
  go_wp2_with fail
  refine (P.out _).mono ?_
  rintro e w4 ⟨rfl, hb4⟩
  have H4 := Lib.hid (box_kept (box_alloc (w := w3) (x := .int .i64 0) (y := .string ⟨#[]⟩) ⟨by simp, by simp, by simp, (Below.refl _ _).alloc (Nat.le_refl _) _⟩ _) hb4)
  clear hb4 m1 c2
  go_wp2_with fail
  refine (G2.out _).mono ?_
  rintro e w5 ⟨rfl, hb5⟩
  have H5 := Lib.hid (box_alloc (box_kept H4.out hb5) (.cells #[.int .i64 0, .string ⟨#[]⟩] 23))
  obtain ⟨k0, k1, hz, _⟩ := box_kept H4.out hb5
  clear hb5
  go_wp2_with (go_at_call 12; refine (num_any _ _).mono ?_; rintro e w9 ⟨rfl, rfl⟩)
  go_ret
  exact ⟨rfl, bel2 B3.out H5.out.2.2.2⟩
set_option maxRecDepth 100000 in
set_option maxHeartbeats 3200000 in
theorem heads_second_long (a b many : Int) (x y : UInt8) (j : Nat) (Z U : ByteArray) (B X T : List UInt8) (C : Array Value) (w : World)
    (hx : a % 256 = (x.toNat : Int)) (hy : b % 256 = (y.toNat : Int)) (hj : bits BinOp.and .i64 many 3 = (j : Int)) (hj2 : j ≤ 3) (t1 : ((x.toNat : Int) == 255) = true) (t2 : ((y.toNat : Int) == 3) = false) (hs : 1 < j)
    (hc1 : Hid (∀ W : World, (convert 45 9 (.slice (some ⟨W.heap.size, 0, none⟩) 4 4)).run Try.prog (W.alloc (.cells #[Value.int .u8 (x.toNat : Int), Value.int .u8 (y.toNat : Int), Value.int .u8 0, Value.int .u8 33] 5)) = .ok (.string ⟨[x, y, 0, 33].toArray⟩) (W.alloc (.cells #[Value.int .u8 (x.toNat : Int), Value.int .u8 (y.toNat : Int), Value.int .u8 0, Value.int .u8 33] 5))))
    (r1 : Sums [x, y, 0, 33] [100, 97, 116, 97] B)
    (hm : Hid (∀ W : World, (Instr.makeSlice 45 (.int .i64 (2047 + (j : Int))) (.int .i64 (2047 + (j : Int)))).run Try.prog W = .ok (.slice (some ⟨W.heap.size, 0, none⟩) (2047 + j) (2047 + j)) (W.alloc (.cells C 5))))
    (hc2 : Hid (∀ W : World, (convert 45 9 (.slice (some ⟨W.heap.size, 0, none⟩) (2047 + j) (2047 + j))).run Try.prog (W.alloc (.cells C 5)) = .ok (.string Z) (W.alloc (.cells C 5))))
    (M : Hid (∀ w, Calls Try.prog 15 #[.string ⟨B.toArray⟩] w fun e w' => e = .returned (.string ⟨X.toArray⟩) ∧ Below w.heap.size w w'))
    (S : Hid (∀ w, Calls Try.prog 14 #[.string ⟨X.toArray⟩, .int .i64 0] w fun e w' => e = .returned (.string ⟨T.toArray⟩) ∧ Below w.heap.size w w'))
    (G : Hid (∀ w, Calls Try.prog 16 #[.string ⟨T.toArray⟩] w fun e w' => e = .returned (.tuple #[.agg #[.int .i64 0, .string ⟨#[]⟩], .int .i64 302]) ∧ Below w.heap.size w w'))
    (P : Hid (∀ w, Calls Try.prog 10 #[.agg #[.int .i64 33, .string Z], .int .i64 0] w fun e w' => e = .returned (.tuple #[.string U, .int .i64 304]) ∧ Below w.heap.size w w'))
    (G2 : Hid (∀ w, Calls Try.prog 16 #[.string ⟨#[97, 98, 99, 100, 101]⟩] w fun e w' => e = .returned (.tuple #[.agg #[.int .i64 0, .string ⟨#[]⟩], .int .i64 300]) ∧ Below w.heap.size w w')) :
    Calls Try.prog 8 #[.int .i64 a, .int .i64 b, .int .i64 many] w fun e w' => e = .returned (.bool true) ∧ Below w.heap.size w w' := by
  unfold Sums at r1
  have hq : decide (2047 + (j : Int) ≤ 2048) = false := decide_eq_false (by omega)
  go_enter Try.func8, Try.ntmps8
  go_wp2_with fail
  refine (awake_any _).mono ?_
  rintro e w0 ⟨rfl, hb0⟩
  have B0 := Lib.hid hb0
  clear hb0
  have c1 := hc1.out w0
  go_wp2_with fail
  refine (M.out _).mono ?_
  rintro e w1 ⟨rfl, hb1⟩
  have B1 := Lib.hid (B0.out.trans (((Below.refl w0.heap.size w0).alloc (Nat.le_refl _) _).trans (hb1.mono (by simp)) |>.mono B0.out.size))
  clear hb1 c1
  go_wp2_with fail
  refine (S.out _).mono ?_
  rintro e w2 ⟨rfl, hb2⟩
  have B2 := Lib.hid (bel2 B1.out hb2)
  clear hb2
  go_wp2_with fail
  refine (G.out _).mono ?_
  rintro e w3 ⟨rfl, hb3⟩
  have B3 := Lib.hid (bel2 B2.out hb3)
  clear hb3
  have m1 := hm.out (w3.alloc (.cells #[.int .i64 0, .string ⟨#[]⟩] 23))
  have c2 := hc2.out (w3.alloc (.cells #[.int .i64 0, .string ⟨#[]⟩] 23))
  have e9 : (w3.alloc (.cells #[.int .i64 0, .string ⟨#[]⟩] 23)).heap.size = w3.heap.size + 1 := by simp
  rw [e9] at c2
  clear e9
  go_wp2_with fail
  refine (P.out _).mono ?_
  rintro e w4 ⟨rfl, hb4⟩
  have H4 := Lib.hid (box_kept (box_alloc (w := w3) (x := .int .i64 0) (y := .string ⟨#[]⟩) ⟨by simp, by simp, by simp, (Below.refl _ _).alloc (Nat.le_refl _) _⟩ _) hb4)
  clear hb4 m1 c2
  go_wp2_with fail
  refine (G2.out _).mono ?_
  rintro e w5 ⟨rfl, hb5⟩
  have H5 := Lib.hid (box_alloc (box_kept H4.out hb5) (.cells #[.int .i64 0, .string ⟨#[]⟩] 23))
  obtain ⟨k0, k1, hz, _⟩ := box_kept H4.out hb5
  clear hb5
  go_wp2_with (go_at_call 12; refine (num_any _ _).mono ?_; rintro e w9 ⟨rfl, rfl⟩)
  go_ret
  exact ⟨rfl, bel2 B3.out H5.out.2.2.2⟩
theorem and3_of (n : Int) : ∃ j : Nat, bits BinOp.and .i64 n 3 = (j : Int) ∧ j ≤ 3 := ⟨(n % 4).toNat, by rw [i64_and3]; omega, by omega⟩
theorem read_head (x y : UInt8) (h : ¬ (x = 255 ∧ y = 3)) (d : List UInt8) : Frm.read ([x, y, 0, 33] ++ d) = ((0, []), 302) := by
  show Frm.read (x :: y :: 0 :: 33 :: d) = _
  rw [Frm.read]
  intro a' b' d' hh
  simp only [List.cons.injEq] at hh
  exact h ⟨hh.1, hh.2.1⟩
theorem read_right : Frm.read ([255, 3, 0, 33] ++ [100, 97, 116, 97]) = ((33, [100, 97, 116, 97]), 0) := by decide +kernel
theorem awake5 : Frm.get [97, 98, 99, 100, 101] = ((0, []), 300) := by decide +kernel
theorem walk_heads (a b many : Int) (w : World) (_wa : (Lit.int .i64 a).wf = true) (_wb : (Lit.int .i64 b).wf = true) (_wm : (Lit.int .i64 many).wf = true) :
    Calls Try.prog 8 #[.int .i64 a, .int .i64 b, .int .i64 many] w fun e w' => e = .returned (.bool true) ∧ Below w.heap.size w w' := by
  obtain ⟨x, hx⟩ := byte_of a
  obtain ⟨y, hy⟩ := byte_of b
  obtain ⟨j, hj, hj2⟩ := and3_of many
  have hp := Stf.put_length 0 (Crc.put ([x, y, 0, 33] ++ [100, 97, 116, 97]))
  rw [Crc.put_length] at hp
  simp only [List.length_append, List.length_cons, List.length_nil] at hp
  have C1 : ∀ W : World, (convert 45 9 (.slice (some ⟨W.heap.size, 0, none⟩) 4 4)).run Try.prog (W.alloc (.cells #[Value.int .u8 (x.toNat : Int), Value.int .u8 (y.toNat : Int), Value.int .u8 0, Value.int .u8 33] 5)) = .ok (.string ⟨[x, y, 0, 33].toArray⟩) (W.alloc (.cells #[Value.int .u8 (x.toNat : Int), Value.int .u8 (y.toNat : Int), Value.int .u8 0, Value.int .u8 33] 5)) :=
    fun W => conv_new W [x, y, 0, 33] _ (four_cells x y)
  have r1 := sums [x, y, 0, 33] [100, 97, 116, 97] (by simp) (by simp)
  have hm := fun W => make_bytes (2047 + j) (by omega) W
  have hk : ((2047 + j : Nat) : Int) = 2047 + (j : Int) := by omega
  rw [hk] at hm
  have hzl : (zeros (2047 + j)).length = 2047 + j := by simp [zeros]
  have C2 := fun W => conv_new W (zeros (2047 + j)) _ rfl
  rw [hzl] at C2
  have M := fun w => F.sum_list ([x, y, 0, 33] ++ [100, 97, 116, 97]) w (by rw [sz]; unfold maxLen; simp)
  have S := fun w => S.stuff_list (Crc.put ([x, y, 0, 33] ++ [100, 97, 116, 97])) 0 w (by rw [Crc.put_length]; simp)
  have G := fun w => fget_any (Stf.put 0 (Crc.put ([x, y, 0, 33] ++ [100, 97, 116, 97]))) w (by omega)
  rw [Frm.get_sealed _ _ (by simp)] at G
  have G2 := fun w => fget_any [97, 98, 99, 100, 101] w (by decide)
  rw [awake5] at G2
  have P := fun w => fput_any 33 (zeros (2047 + j)) 0 w (by rw [hzl]; unfold maxLen; omega)
  have hg : Frm.good 33 = true := by decide
  by_cases h1 : x = 255
  · have t1 : ((x.toNat : Int) == 255) = true := byte_eq _ 255 h1
    by_cases h2 : y = 3
    · have t2 : ((y.toNat : Int) == 3) = true := byte_eq _ 3 h2
      rw [show Frm.read ([x, y, 0, 33] ++ [100, 97, 116, 97]) = _ from h1 ▸ h2 ▸ read_right] at G
      exact heads_right a b many x y j _ _ _ _ _ _ _ _ w hx.symm hy.symm hj hj2 t1 t2 (Lib.hid C1) r1 (Lib.hid hm) (Lib.hid C2) (Lib.hid M) (Lib.hid S) (Lib.hid G) (Lib.hid P) (Lib.hid G2)
    · have t2 : ((y.toNat : Int) == 3) = false := byte_ne _ 3 h2
      rw [read_head x y (fun h => h2 h.2)] at G
      by_cases hs : j ≤ 1
      · rw [Frm.put_good _ _ _ (Frm.code_good _ _ hg (by rw [hzl]; omega))] at P
        exact heads_second_short a b many x y j _ _ _ _ _ _ w hx.symm hy.symm hj hj2 t1 t2 hs (Lib.hid C1) r1 (Lib.hid hm) (Lib.hid C2) (Lib.hid M) (Lib.hid S) (Lib.hid G) (Lib.hid P) (Lib.hid G2)
      · have hcd := Frm.code_long 33 (zeros (2047 + j)).length hg (by rw [hzl]; omega)
        rw [Frm.put_bad _ _ _ (by omega), hcd] at P
        exact heads_second_long a b many x y j _ _ _ _ _ _ w hx.symm hy.symm hj hj2 t1 t2 (by omega) (Lib.hid C1) r1 (Lib.hid hm) (Lib.hid C2) (Lib.hid M) (Lib.hid S) (Lib.hid G) (Lib.hid P) (Lib.hid G2)
  · have t1 : ((x.toNat : Int) == 255) = false := byte_ne _ 255 h1
    rw [read_head x y (fun h => h1 h.1)] at G
    by_cases hs : j ≤ 1
    · rw [Frm.put_good _ _ _ (Frm.code_good _ _ hg (by rw [hzl]; omega))] at P
      exact heads_first_short a b many x y j _ _ _ _ _ _ w hx.symm hy.symm hj hj2 t1 hs (Lib.hid C1) r1 (Lib.hid hm) (Lib.hid C2) (Lib.hid M) (Lib.hid S) (Lib.hid G) (Lib.hid P) (Lib.hid G2)
    · have hcd := Frm.code_long 33 (zeros (2047 + j)).length hg (by rw [hzl]; omega)
      rw [Frm.put_bad _ _ _ (by omega), hcd] at P
      exact heads_first_long a b many x y j _ _ _ _ _ _ w hx.symm hy.symm hj hj2 t1 (by omega) (Lib.hid C1) r1 (Lib.hid hm) (Lib.hid C2) (Lib.hid M) (Lib.hid S) (Lib.hid G) (Lib.hid P) (Lib.hid G2)
end Go.Proofs.Ytnkkompmdngkgaa.R
