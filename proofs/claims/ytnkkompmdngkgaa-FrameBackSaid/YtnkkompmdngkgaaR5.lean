/-
  Contract of the program's Get of a frame.
-/
import Derived.Test.YtnkkompmdngkgaaR4
namespace Go.Proofs.Ytnkkompmdngkgaa.R
open Go.RowKit
set_option maxHeartbeats 400000 in
theorem get_unstuffed (s : ByteArray) (t : ByteArray) (c : Int) (w : World) (hc : c ≠ 0)
    (G : Hid (∀ w, Calls Try.prog 19 #[.string s] w fun e w' => e = .returned (.tuple #[.string t, .int .i64 c]) ∧ Below w.heap.size w w')) :
    Calls Try.prog 16 #[.string s] w fun e w' => e = .returned (.tuple #[.agg #[.int .i64 0, .string ⟨#[]⟩], .int .i64 300]) ∧ Below w.heap.size w w' := by
  have hq : (c != 0) = true := by simpa using hc
  clear hc
  go_enter Try.func16, Try.ntmps16
  go_wp2_with fail
  refine (G.out _).mono ?_
  rintro e w1 ⟨rfl, hb1⟩
  have hz : w.heap.size < w1.heap.size := by have := hb1.size; simp at this; omega
  obtain ⟨hc, hf⟩ := bcell hb1
  have HB := Lib.hid (((Below.refl _ w).alloc (Nat.le_refl _) _).trans (hb1.mono (by simp)))
  clear hb1
  go_wp2_with fail
  exact bodyPost_ret (v := .tuple #[.agg #[.int .i64 0, .string ⟨#[]⟩], .int .i64 300]) (by simp [results, Try.results16, go_sem, hc]) rfl ⟨rfl, (HB.out.setCell (by simp) _).setCell (by simp) _⟩
set_option maxHeartbeats 400000 in
theorem get_small (s t : ByteArray) (w : World) (h6 : t.size < 6)
    (G : Hid (∀ w, Calls Try.prog 19 #[.string s] w fun e w' => e = .returned (.tuple #[.string t, .int .i64 0]) ∧ Below w.heap.size w w')) :
    Calls Try.prog 16 #[.string s] w fun e w' => e = .returned (.tuple #[.agg #[.int .i64 0, .string ⟨#[]⟩], .int .i64 300]) ∧ Below w.heap.size w w' := by
  go_enter Try.func16, Try.ntmps16
  go_wp2_with fail
  refine (G.out _).mono ?_
  rintro e w1 ⟨rfl, hb1⟩
  have hz : w.heap.size < w1.heap.size := by have := hb1.size; simp at this; omega
  obtain ⟨hc, hf⟩ := bcell hb1
  have HB := Lib.hid (((Below.refl _ w).alloc (Nat.le_refl _) _).trans (hb1.mono (by simp)))
  clear hb1
  go_wp2_with fail
  exact bodyPost_ret (v := .tuple #[.agg #[.int .i64 0, .string ⟨#[]⟩], .int .i64 300]) (by simp [results, Try.results16, go_sem, hc]) rfl ⟨rfl, (HB.out.setCell (by simp) _).setCell (by simp) _⟩
set_option maxHeartbeats 400000 in
theorem get_unsummed (s t u : ByteArray) (c : Int) (w : World) (h6 : 6 ≤ t.size) (h7 : t.size ≤ 268435456) (hc : c ≠ 0)
    (G : Hid (∀ w, Calls Try.prog 19 #[.string s] w fun e w' => e = .returned (.tuple #[.string t, .int .i64 0]) ∧ Below w.heap.size w w'))
    (K : Hid (∀ w, Calls Try.prog 27 #[.string t] w fun e w' => e = .returned (.tuple #[.string u, .int .i64 c]) ∧ Below w.heap.size w w')) :
    Calls Try.prog 16 #[.string s] w fun e w' => e = .returned (.tuple #[.agg #[.int .i64 0, .string ⟨#[]⟩], .int .i64 301]) ∧ Below w.heap.size w w' := by
  have hq : (c != 0) = true := by simpa using hc
  clear hc
  go_enter Try.func16, Try.ntmps16
  go_wp2_with fail
  refine (G.out _).mono ?_
  rintro e w1 ⟨rfl, hb1⟩
  have hz : w.heap.size < w1.heap.size := by have := hb1.size; simp at this; omega
  obtain ⟨hc, hf⟩ := bcell hb1
  have HB := Lib.hid (((Below.refl _ w).alloc (Nat.le_refl _) _).trans (hb1.mono (by simp)))
  clear hb1
  go_wp2_with fail
  refine (K.out _).mono ?_
  rintro e w2 ⟨rfl, hb2⟩
  have hz2 : w.heap.size < w2.heap.size := by have := hb2.size; omega
  obtain ⟨hc2, hf2⟩ := bcell hb2
  have HB2 := Lib.hid (HB.out.trans (hb2.mono (by omega)))
  clear hb2
  go_wp2_with fail
  exact bodyPost_ret (v := .tuple #[.agg #[.int .i64 0, .string ⟨#[]⟩], .int .i64 301]) (by simp [results, Try.results16, go_sem, hc, hc2, hz]) rfl ⟨rfl, (HB2.out.setCell (by simp) _).setCell (by simp) _⟩
set_option maxHeartbeats 400000 in
theorem get_headless (s t u v : ByteArray) (w : World) (h6 : 6 ≤ t.size) (h7 : t.size ≤ 268435456)
    (G : Hid (∀ w, Calls Try.prog 19 #[.string s] w fun e w' => e = .returned (.tuple #[.string t, .int .i64 0]) ∧ Below w.heap.size w w'))
    (K : Hid (∀ w, Calls Try.prog 27 #[.string t] w fun e w' => e = .returned (.tuple #[.string u, .int .i64 0]) ∧ Below w.heap.size w w'))
    (C : Hid (∀ w, Calls Try.prog 28 #[.string u, .string ⟨#[255, 3]⟩] w fun e w' => e = .returned (.tuple #[.string v, .bool false]) ∧ w = w')) :
    Calls Try.prog 16 #[.string s] w fun e w' => e = .returned (.tuple #[.agg #[.int .i64 0, .string ⟨#[]⟩], .int .i64 302]) ∧ Below w.heap.size w w' := by
  go_enter Try.func16, Try.ntmps16
  go_wp2_with fail
  refine (G.out _).mono ?_
  rintro e w1 ⟨rfl, hb1⟩
  have hz : w.heap.size < w1.heap.size := by have := hb1.size; simp at this; omega
  obtain ⟨hc, hf⟩ := bcell hb1
  have HB := Lib.hid (((Below.refl _ w).alloc (Nat.le_refl _) _).trans (hb1.mono (by simp)))
  clear hb1
  go_wp2_with fail
  refine (K.out _).mono ?_
  rintro e w2 ⟨rfl, hb2⟩
  have hz2 : w.heap.size < w2.heap.size := by have := hb2.size; omega
  obtain ⟨hc2, hf2⟩ := bcell hb2
  have HB2 := Lib.hid (HB.out.trans (hb2.mono (by omega)))
  clear hb2
  go_wp2_with fail
  refine (C.out _).mono ?_
  rintro e w3 ⟨rfl, rfl⟩
  go_wp2_with fail
  exact bodyPost_ret (v := .tuple #[.agg #[.int .i64 0, .string ⟨#[]⟩], .int .i64 302]) (by simp [results, Try.results16, go_sem, hc, hc2, hz]) rfl ⟨rfl, (HB2.out.setCell (by simp) _).setCell (by simp) _⟩
set_option maxHeartbeats 800000 in
theorem get_judged (s t u v d : ByteArray) (z c : Int) (w : World) (hc0 : c ≠ 0) (h6 : 6 ≤ t.size) (h7 : t.size ≤ 268435456) (h8 : 2 ≤ v.size) (h9 : v.size ≤ 268435456) (hd : v.extract 2 v.size = d) (hx : bits BinOp.or IntKind.i64 (wrap64 (wrap64 (v[0].toNat : Int) * 256)) (wrap64 (v[1].toNat : Int)) = z)
    (G : Hid (∀ w, Calls Try.prog 19 #[.string s] w fun e w' => e = .returned (.tuple #[.string t, .int .i64 0]) ∧ Below w.heap.size w w'))
    (K : Hid (∀ w, Calls Try.prog 27 #[.string t] w fun e w' => e = .returned (.tuple #[.string u, .int .i64 0]) ∧ Below w.heap.size w w'))
    (C : Hid (∀ w, Calls Try.prog 28 #[.string u, .string ⟨#[255, 3]⟩] w fun e w' => e = .returned (.tuple #[.string v, .bool true]) ∧ w = w'))
    (J : Hid (∀ w, Calls Try.prog 20 #[.agg #[.int .i64 z, .string d]] w fun e w' => e = .returned (.int .i64 c) ∧ Below w.heap.size w w')) :
    Calls Try.prog 16 #[.string s] w fun e w' => e = .returned (.tuple #[.agg #[.int .i64 0, .string ⟨#[]⟩], .int .i64 c]) ∧ Below w.heap.size w w' := by
  have hq : (c != 0) = true := by simpa using hc0
  clear hc0
  go_enter Try.func16, Try.ntmps16
  go_wp2_with fail
  refine (G.out _).mono ?_
  rintro e w1 ⟨rfl, hb1⟩
  have hz : w.heap.size < w1.heap.size := by have := hb1.size; simp at this; omega
  obtain ⟨hc, hf⟩ := bcell hb1
  have HB := Lib.hid (((Below.refl _ w).alloc (Nat.le_refl _) _).trans (hb1.mono (by simp)))
  clear hb1
  go_wp2_with fail
  refine (K.out _).mono ?_
  rintro e w2 ⟨rfl, hb2⟩
  have hz2 : w.heap.size < w2.heap.size := by have := hb2.size; omega
  obtain ⟨hc2, hf2⟩ := bcell hb2
  have HB2 := Lib.hid (HB.out.trans (hb2.mono (by omega)))
  clear hb2
  go_wp2_with fail
  refine (C.out _).mono ?_
  rintro e w3 ⟨rfl, rfl⟩
  have p0 : 0 < v.size := by omega
  have p1 : 1 < v.size := by omega
  have p3 : (1 : Int) < (v.size : Int) := by omega
  have p4 : (2 : Int) ≤ (v.size : Int) := by omega
  go_wp2_with fail
  go_region
  go_wp2_with fail
  refine (J.out _).mono ?_
  rintro e w4 ⟨rfl, hb4⟩
  have hz4 : w2.heap.size < w4.heap.size := by have := hb4.size; simp at this; omega
  have hz5 : w.heap.size < w4.heap.size := by omega
  have k0 : w4.cell? ⟨w.heap.size, 0, none⟩ = some (.int .i64 0) := by
    rw [hb4.cell (p := ⟨w.heap.size, 0, none⟩) (by simp; omega)]
    simp [go_sem, hc, hc2, hz, hz2]
  have k1 : w4.cell? ⟨w.heap.size, 1, none⟩ = some (.string ⟨#[]⟩) := by
    rw [hb4.cell (p := ⟨w.heap.size, 1, none⟩) (by simp; omega)]
    simp [go_sem, hc, hc2, hz, hz2]
  obtain ⟨hc4, hf4⟩ := bcell hb4
  have HB4 := Lib.hid (HB2.out.trans (((Below.refl w.heap.size w2).alloc (by omega) _).drew.trans (hb4.mono (by simp; omega))))
  clear hb4
  go_wp2_with fail
  exact bodyPost_ret (v := .tuple #[.agg #[.int .i64 0, .string ⟨#[]⟩], .int .i64 c]) (by simp [results, Try.results16, go_sem, k0, k1]) rfl ⟨rfl, (HB4.out.setCell (by simp) _).setCell (by simp) _⟩
set_option maxHeartbeats 800000 in
theorem get_good (s t u v d : ByteArray) (z : Int) (w : World) (h6 : 6 ≤ t.size) (h7 : t.size ≤ 268435456) (h8 : 2 ≤ v.size) (h9 : v.size ≤ 268435456) (hd : v.extract 2 v.size = d) (hx : bits BinOp.or IntKind.i64 (wrap64 (wrap64 (v[0].toNat : Int) * 256)) (wrap64 (v[1].toNat : Int)) = z)
    (G : Hid (∀ w, Calls Try.prog 19 #[.string s] w fun e w' => e = .returned (.tuple #[.string t, .int .i64 0]) ∧ Below w.heap.size w w'))
    (K : Hid (∀ w, Calls Try.prog 27 #[.string t] w fun e w' => e = .returned (.tuple #[.string u, .int .i64 0]) ∧ Below w.heap.size w w'))
    (C : Hid (∀ w, Calls Try.prog 28 #[.string u, .string ⟨#[255, 3]⟩] w fun e w' => e = .returned (.tuple #[.string v, .bool true]) ∧ w = w'))
    (J : Hid (∀ w, Calls Try.prog 20 #[.agg #[.int .i64 z, .string d]] w fun e w' => e = .returned (.int .i64 0) ∧ Below w.heap.size w w')) :
    Calls Try.prog 16 #[.string s] w fun e w' => e = .returned (.tuple #[.agg #[.int .i64 z, .string d], .int .i64 0]) ∧ Below w.heap.size w w' := by
  go_enter Try.func16, Try.ntmps16
  go_wp2_with fail
  refine (G.out _).mono ?_
  rintro e w1 ⟨rfl, hb1⟩
  have hz : w.heap.size < w1.heap.size := by have := hb1.size; simp at this; omega
  obtain ⟨hc, hf⟩ := bcell hb1
  have HB := Lib.hid (((Below.refl _ w).alloc (Nat.le_refl _) _).trans (hb1.mono (by simp)))
  clear hb1
  go_wp2_with fail
  refine (K.out _).mono ?_
  rintro e w2 ⟨rfl, hb2⟩
  have hz2 : w.heap.size < w2.heap.size := by have := hb2.size; omega
  obtain ⟨hc2, hf2⟩ := bcell hb2
  have HB2 := Lib.hid (HB.out.trans (hb2.mono (by omega)))
  clear hb2
  go_wp2_with fail
  refine (C.out _).mono ?_
  rintro e w3 ⟨rfl, rfl⟩
  have p0 : 0 < v.size := by omega
  have p1 : 1 < v.size := by omega
  have p3 : (1 : Int) < (v.size : Int) := by omega
  have p4 : (2 : Int) ≤ (v.size : Int) := by omega
  go_wp2_with fail
  go_region
  go_wp2_with fail
  refine (J.out _).mono ?_
  rintro e w4 ⟨rfl, hb4⟩
  have hz4 : w2.heap.size < w4.heap.size := by have := hb4.size; simp at this; omega
  have hz5 : w.heap.size < w4.heap.size := by omega
  have k0 : w4.cell? ⟨w.heap.size, 0, none⟩ = some (.int .i64 0) := by
    rw [hb4.cell (p := ⟨w.heap.size, 0, none⟩) (by simp; omega)]
    simp [go_sem, hc, hc2, hz, hz2]
  have k1 : w4.cell? ⟨w.heap.size, 1, none⟩ = some (.string ⟨#[]⟩) := by
    rw [hb4.cell (p := ⟨w.heap.size, 1, none⟩) (by simp; omega)]
    simp [go_sem, hc, hc2, hz, hz2]
  obtain ⟨hc4, hf4⟩ := bcell hb4
  have HB4 := Lib.hid (HB2.out.trans (((Below.refl w.heap.size w2).alloc (by omega) _).drew.trans (hb4.mono (by simp; omega))))
  clear hb4
  go_wp2_with fail
  exact bodyPost_ret (v := .tuple #[.agg #[.int .i64 z, .string d], .int .i64 0]) (by simp [results, Try.results16, go_sem, k0, k1]) rfl ⟨rfl, (HB4.out.setCell (by simp) _).setCell (by simp) _⟩
theorem i64_or_nat (a b : Nat) (ha : a < 9223372036854775808) (hb : b < 9223372036854775808) : bits .or .i64 (a : Int) (b : Int) = ((a ||| b : Nat) : Int) := by
  have hx : a ||| b < 2 ^ 63 := Nat.or_lt_two_pow (by omega) (by omega)
  show IntKind.i64.wrap ((BitVec.ofInt 64 (a : Int) ||| BitVec.ofInt 64 (b : Int)).toNat : Int) = _
  rw [BitVec.toNat_or, ofInt_i64 a ha, ofInt_i64 b hb, i64_wrap _ (by omega)]
theorem high_low (a b : UInt8) : bits BinOp.or IntKind.i64 (wrap64 (wrap64 (a.toNat : Int) * 256)) (wrap64 (b.toNat : Int)) = ((256 * a.toNat + b.toNat : Nat) : Int) := by
  have ha := a.toNat_lt
  have hb := b.toNat_lt
  have e1 : wrap64 (a.toNat : Int) = (a.toNat : Int) := wrap64_nat _ (by omega)
  have e2 : wrap64 (b.toNat : Int) = (b.toNat : Int) := wrap64_nat _ (by omega)
  have e3 : wrap64 ((a.toNat : Int) * 256) = ((256 * a.toNat : Nat) : Int) := by
    have := wrap64_nat (256 * a.toNat) (by omega)
    rw [← this]
    congr 1
    omega
  rw [e1, e2, e3]
  have : 256 * a.toNat + b.toNat = (256 * a.toNat) ||| b.toNat := by
    have h := Nat.two_pow_add_eq_or_of_lt (i := 8) (b := b.toNat) (by omega) a.toNat
    simpa using h
  rw [this]
  exact i64_or_nat _ _ (by omega) (by omega)
end Go.Proofs.Ytnkkompmdngkgaa.R
