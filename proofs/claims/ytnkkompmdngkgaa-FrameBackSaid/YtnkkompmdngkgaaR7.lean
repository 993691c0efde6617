/-
  Ways of the document's own Unframe.
-/
import Derived.Test.YtnkkompmdngkgaaR6
namespace Go.Proofs.Ytnkkompmdngkgaa.R
open Go.RowKit
set_option maxHeartbeats 400000 in
theorem un_unstuffed (s : ByteArray) (t : ByteArray) (c : Int) (w : World) (hc : c ≠ 0)
    (G : Hid (∀ w, Calls Try.prog 29 #[.string s] w fun e w' => e = .returned (.tuple #[.string t, .int .i64 c]) ∧ Below w.heap.size w w')) :
    Calls Try.prog 17 #[.string s] w fun e w' => e = .returned (.tuple #[.agg #[.int .i64 0, .string ⟨#[]⟩], .int .i64 300]) ∧ Below w.heap.size w w' := by
  have hq : (c != 0) = true := by simpa using hc
  clear hc
  go_enter Try.func17, Try.ntmps17
  go_wp2_with fail
  refine (G.out _).mono ?_
  rintro e w1 ⟨rfl, hb1⟩
  have hz : w.heap.size < w1.heap.size := by have := hb1.size; simp at this; omega
  obtain ⟨hc, hf⟩ := bcell hb1
  have HB := Lib.hid (((Below.refl _ w).alloc (Nat.le_refl _) _).trans (hb1.mono (by simp)))
  clear hb1
  go_wp2_with fail
  exact bodyPost_ret (v := .tuple #[.agg #[.int .i64 0, .string ⟨#[]⟩], .int .i64 300]) (by simp [results, Try.results17, go_sem, hc]) rfl ⟨rfl, (HB.out.setCell (by simp) _).setCell (by simp) _⟩
set_option maxHeartbeats 400000 in
theorem un_small (s t : ByteArray) (w : World) (h6 : t.size < 6)
    (G : Hid (∀ w, Calls Try.prog 29 #[.string s] w fun e w' => e = .returned (.tuple #[.string t, .int .i64 0]) ∧ Below w.heap.size w w')) :
    Calls Try.prog 17 #[.string s] w fun e w' => e = .returned (.tuple #[.agg #[.int .i64 0, .string ⟨#[]⟩], .int .i64 300]) ∧ Below w.heap.size w w' := by
  go_enter Try.func17, Try.ntmps17
  go_wp2_with fail
  refine (G.out _).mono ?_
  rintro e w1 ⟨rfl, hb1⟩
  have hz : w.heap.size < w1.heap.size := by have := hb1.size; simp at this; omega
  obtain ⟨hc, hf⟩ := bcell hb1
  have HB := Lib.hid (((Below.refl _ w).alloc (Nat.le_refl _) _).trans (hb1.mono (by simp)))
  clear hb1
  go_wp2_with fail
  exact bodyPost_ret (v := .tuple #[.agg #[.int .i64 0, .string ⟨#[]⟩], .int .i64 300]) (by simp [results, Try.results17, go_sem, hc]) rfl ⟨rfl, (HB.out.setCell (by simp) _).setCell (by simp) _⟩
set_option maxHeartbeats 400000 in
theorem un_unsummed (s t u : ByteArray) (c : Int) (w : World) (h6 : 6 ≤ t.size) (h7 : t.size ≤ 268435456) (hc : c ≠ 0)
    (G : Hid (∀ w, Calls Try.prog 29 #[.string s] w fun e w' => e = .returned (.tuple #[.string t, .int .i64 0]) ∧ Below w.heap.size w w'))
    (K : Hid (∀ w, Calls Try.prog 30 #[.string t] w fun e w' => e = .returned (.tuple #[.string u, .int .i64 c]) ∧ Below w.heap.size w w')) :
    Calls Try.prog 17 #[.string s] w fun e w' => e = .returned (.tuple #[.agg #[.int .i64 0, .string ⟨#[]⟩], .int .i64 301]) ∧ Below w.heap.size w w' := by
  have hq : (c != 0) = true := by simpa using hc
  clear hc
  go_enter Try.func17, Try.ntmps17
  go_wp2_with fail
  refine (G.out _).mono ?_
  rintro e w1 ⟨rfl, hb1⟩
  have hz : w.heap.size < w1.heap.size := by have := hb1.size; simp at this; omega
  obtain ⟨hc, hf⟩ := bcell hb1
  have HB := Lib.hid (((Below.refl _ w).alloc (Nat.le_refl _) _).trans (hb1.mono (by simp)))
  clear hb1
  go_wp2_with fail
  refine (K.out _).mono ?_
  rintro e w2 ⟨rfl, hb2⟩
  have hz2 : w.heap.size < w2.heap.size := by have := hb2.size; omega
  obtain ⟨hc2, hf2⟩ := bcell hb2
  have HB2 := Lib.hid (HB.out.trans (hb2.mono (by omega)))
  clear hb2
  go_wp2_with fail
  exact bodyPost_ret (v := .tuple #[.agg #[.int .i64 0, .string ⟨#[]⟩], .int .i64 301]) (by simp [results, Try.results17, go_sem, hc, hc2, hz]) rfl ⟨rfl, (HB2.out.setCell (by simp) _).setCell (by simp) _⟩
set_option maxHeartbeats 400000 in
theorem un_headless (s t u : ByteArray) (p : List UInt8) (w : World) (h6 : 6 ≤ t.size) (h7 : t.size ≤ 268435456) (h2 : 2 ≤ u.size) (h3 : u.size ≤ 268435456) (hp : u.extract 0 2 = ⟨p.toArray⟩) (hne : p ≠ [255, 3])
    (G : Hid (∀ w, Calls Try.prog 29 #[.string s] w fun e w' => e = .returned (.tuple #[.string t, .int .i64 0]) ∧ Below w.heap.size w w'))
    (K : Hid (∀ w, Calls Try.prog 30 #[.string t] w fun e w' => e = .returned (.tuple #[.string u, .int .i64 0]) ∧ Below w.heap.size w w')) :
    Calls Try.prog 17 #[.string s] w fun e w' => e = .returned (.tuple #[.agg #[.int .i64 0, .string ⟨#[]⟩], .int .i64 302]) ∧ Below w.heap.size w w' := by
  have hq : (p == [255, 3]) = false := by simpa using hne
  clear hne
  go_enter Try.func17, Try.ntmps17
  go_wp2_with fail
  refine (G.out _).mono ?_
  rintro e w1 ⟨rfl, hb1⟩
  have hz : w.heap.size < w1.heap.size := by have := hb1.size; simp at this; omega
  obtain ⟨hc, hf⟩ := bcell hb1
  have HB := Lib.hid (((Below.refl _ w).alloc (Nat.le_refl _) _).trans (hb1.mono (by simp)))
  clear hb1
  go_wp2_with fail
  refine (K.out _).mono ?_
  rintro e w2 ⟨rfl, hb2⟩
  have hz2 : w.heap.size < w2.heap.size := by have := hb2.size; omega
  obtain ⟨hc2, hf2⟩ := bcell hb2
  have HB2 := Lib.hid (HB.out.trans (hb2.mono (by omega)))
  clear hb2
  go_wp2_with fail
  exact bodyPost_ret (v := .tuple #[.agg #[.int .i64 0, .string ⟨#[]⟩], .int .i64 302]) (by simp [results, Try.results17, go_sem, hc, hc2, hz]) rfl ⟨rfl, (HB2.out.setCell (by simp) _).setCell (by simp) _⟩
set_option maxHeartbeats 800000 in
theorem un_bad (s t u : ByteArray) (z : Int) (w : World) (h6 : 6 ≤ t.size) (h7 : t.size ≤ 268435456) (h4 : 4 ≤ u.size) (h3 : u.size ≤ 268435456) (hp : u.extract 0 2 = ⟨#[255, 3]⟩)
    (G : Hid (∀ w, Calls Try.prog 29 #[.string s] w fun e w' => e = .returned (.tuple #[.string t, .int .i64 0]) ∧ Below w.heap.size w w'))
    (K : Hid (∀ w, Calls Try.prog 30 #[.string t] w fun e w' => e = .returned (.tuple #[.string u, .int .i64 0]) ∧ Below w.heap.size w w'))
    (J : Hid (∀ w, Calls Try.prog 24 #[.int .i64 z] w fun e w' => e = .returned (.bool false) ∧ w = w'))
    (hx : wrap64 (wrap64 (wrap64 (u[2].toNat : Int) * 256) + wrap64 (u[3].toNat : Int)) = z) :
    Calls Try.prog 17 #[.string s] w fun e w' => e = .returned (.tuple #[.agg #[.int .i64 0, .string ⟨#[]⟩], .int .i64 303]) ∧ Below w.heap.size w w' := by
  have p1 : (2 : Int) < (u.size : Int) := by omega
  have p2 : (3 : Int) < (u.size : Int) := by omega
  have p3 : 2 < u.size := by omega
  have p4 : 3 < u.size := by omega
  go_enter Try.func17, Try.ntmps17
  go_wp2_with fail
  refine (G.out _).mono ?_
  rintro e w1 ⟨rfl, hb1⟩
  have hz : w.heap.size < w1.heap.size := by have := hb1.size; simp at this; omega
  obtain ⟨hc, hf⟩ := bcell hb1
  have HB := Lib.hid (((Below.refl _ w).alloc (Nat.le_refl _) _).trans (hb1.mono (by simp)))
  clear hb1
  go_wp2_with fail
  refine (K.out _).mono ?_
  rintro e w2 ⟨rfl, hb2⟩
  have hz2 : w.heap.size < w2.heap.size := by have := hb2.size; omega
  obtain ⟨hc2, hf2⟩ := bcell hb2
  have HB2 := Lib.hid (HB.out.trans (hb2.mono (by omega)))
  clear hb2
  go_wp2_with fail
  go_region
  go_wp2_with fail
  refine (J.out _).mono ?_
  rintro e w3 ⟨rfl, rfl⟩
  go_wp2_with fail
  exact bodyPost_ret (v := .tuple #[.agg #[.int .i64 0, .string ⟨#[]⟩], .int .i64 303]) (by simp [results, Try.results17, go_sem, hc, hc2, hz]) rfl ⟨rfl, (HB2.out.drew.setCell (by simp) _).setCell (by simp) _⟩
set_option maxHeartbeats 800000 in
theorem un_long (s t u : ByteArray) (z : Int) (w : World) (h6 : 6 ≤ t.size) (h7 : t.size ≤ 268435456) (h4 : 4 ≤ u.size) (h3 : u.size ≤ 268435456) (hp : u.extract 0 2 = ⟨#[255, 3]⟩) (hlong : 2052 < u.size)
    (G : Hid (∀ w, Calls Try.prog 29 #[.string s] w fun e w' => e = .returned (.tuple #[.string t, .int .i64 0]) ∧ Below w.heap.size w w'))
    (K : Hid (∀ w, Calls Try.prog 30 #[.string t] w fun e w' => e = .returned (.tuple #[.string u, .int .i64 0]) ∧ Below w.heap.size w w'))
    (J : Hid (∀ w, Calls Try.prog 24 #[.int .i64 z] w fun e w' => e = .returned (.bool true) ∧ w = w'))
    (hx : wrap64 (wrap64 (wrap64 (u[2].toNat : Int) * 256) + wrap64 (u[3].toNat : Int)) = z) :
    Calls Try.prog 17 #[.string s] w fun e w' => e = .returned (.tuple #[.agg #[.int .i64 0, .string ⟨#[]⟩], .int .i64 304]) ∧ Below w.heap.size w w' := by
  have p1 : (2 : Int) < (u.size : Int) := by omega
  have p2 : (3 : Int) < (u.size : Int) := by omega
  have p3 : 2 < u.size := by omega
  have p4 : 3 < u.size := by omega
  go_enter Try.func17, Try.ntmps17
  go_wp2_with fail
  refine (G.out _).mono ?_
  rintro e w1 ⟨rfl, hb1⟩
  have hz : w.heap.size < w1.heap.size := by have := hb1.size; simp at this; omega
  obtain ⟨hc, hf⟩ := bcell hb1
  have HB := Lib.hid (((Below.refl _ w).alloc (Nat.le_refl _) _).trans (hb1.mono (by simp)))
  clear hb1
  go_wp2_with fail
  refine (K.out _).mono ?_
  rintro e w2 ⟨rfl, hb2⟩
  have hz2 : w.heap.size < w2.heap.size := by have := hb2.size; omega
  obtain ⟨hc2, hf2⟩ := bcell hb2
  have HB2 := Lib.hid (HB.out.trans (hb2.mono (by omega)))
  clear hb2
  go_wp2_with fail
  go_region
  go_wp2_with fail
  refine (J.out _).mono ?_
  rintro e w3 ⟨rfl, rfl⟩
  go_wp2_with fail
  exact bodyPost_ret (v := .tuple #[.agg #[.int .i64 0, .string ⟨#[]⟩], .int .i64 304]) (by simp [results, Try.results17, go_sem, hc, hc2, hz]) rfl ⟨rfl, (HB2.out.drew.setCell (by simp) _).setCell (by simp) _⟩
set_option maxHeartbeats 800000 in
theorem un_good (s t u d : ByteArray) (z : Int) (w : World) (h6 : 6 ≤ t.size) (h7 : t.size ≤ 268435456) (h4 : 4 ≤ u.size) (h3 : u.size ≤ 268435456) (hp : u.extract 0 2 = ⟨#[255, 3]⟩) (hd : u.extract 4 u.size = d) (hshort : u.size ≤ 2052)
    (G : Hid (∀ w, Calls Try.prog 29 #[.string s] w fun e w' => e = .returned (.tuple #[.string t, .int .i64 0]) ∧ Below w.heap.size w w'))
    (K : Hid (∀ w, Calls Try.prog 30 #[.string t] w fun e w' => e = .returned (.tuple #[.string u, .int .i64 0]) ∧ Below w.heap.size w w'))
    (J : Hid (∀ w, Calls Try.prog 24 #[.int .i64 z] w fun e w' => e = .returned (.bool true) ∧ w = w'))
    (hx : wrap64 (wrap64 (wrap64 (u[2].toNat : Int) * 256) + wrap64 (u[3].toNat : Int)) = z) :
    Calls Try.prog 17 #[.string s] w fun e w' => e = .returned (.tuple #[.agg #[.int .i64 z, .string d], .int .i64 0]) ∧ Below w.heap.size w w' := by
  have p1 : (2 : Int) < (u.size : Int) := by omega
  have p2 : (3 : Int) < (u.size : Int) := by omega
  have p3 : 2 < u.size := by omega
  have p4 : 3 < u.size := by omega
  go_enter Try.func17, Try.ntmps17
  go_wp2_with fail
  refine (G.out _).mono ?_
  rintro e w1 ⟨rfl, hb1⟩
  have hz : w.heap.size < w1.heap.size := by have := hb1.size; simp at this; omega
  obtain ⟨hc, hf⟩ := bcell hb1
  have HB := Lib.hid (((Below.refl _ w).alloc (Nat.le_refl _) _).trans (hb1.mono (by simp)))
  clear hb1
  go_wp2_with fail
  refine (K.out _).mono ?_
  rintro e w2 ⟨rfl, hb2⟩
  have hz2 : w.heap.size < w2.heap.size := by have := hb2.size; omega
  obtain ⟨hc2, hf2⟩ := bcell hb2
  have HB2 := Lib.hid (HB.out.trans (hb2.mono (by omega)))
  clear hb2
  go_wp2_with fail
  go_region
  go_wp2_with fail
  refine (J.out _).mono ?_
  rintro e w3 ⟨rfl, rfl⟩
  go_wp2_with fail
  exact bodyPost_ret (v := .tuple #[.agg #[.int .i64 z, .string d], .int .i64 0]) (by simp [results, Try.results17, go_sem, hc, hc2, hz]) rfl ⟨rfl, (HB2.out.drew.setCell (by simp) _).setCell (by simp) _⟩
end Go.Proofs.Ytnkkompmdngkgaa.R
