/-
  The walk of the law of codes that carry options.
-/
import Derived.Test.YtoodhbdgnfmofaaCA
import Derived.Test.YtoodhbdgnfmofaaC4
namespace Go.Proofs.Ytoodhbdgnfmofaa.C
open Go.RowKit
set_option maxRecDepth 100000 in
set_option maxHeartbeats 1600000 in
theorem kinds_bad (code id z y : Int) (q : Option Addr) (n cap : Nat) (t : List UInt8) (w : World) (a1 : bits .and .i64 code 255 = z) (a2 : bits .and .i64 id 255 = y) (k : Int) (hk : (k != 0) = true)
    (A : Hid (∀ W, Calls Try.prog 17 #[] W fun e w' => e = .returned (.bool true) ∧ Below W.heap.size W w'))
    (R : Hid (∀ W, Below w.heap.size w W → Calls Try.prog 18 #[.slice q n cap] W fun e w' => e = .returned (.tuple #[.string ⟨t.toArray⟩, .int .i64 k]) ∧ Below W.heap.size W w')) :
    Calls Try.prog 6 #[.int .i64 code, .int .i64 id, .slice q n cap] w fun e w' => e = .returned (.bool true) ∧ Below w.heap.size w w' := by
  go_enter Try.func6, Try.ntmps6
  go_wp2_with fail
  refine (A.out _).mono ?_
  rintro e w1 ⟨rfl, hb1⟩
  have B1 := Lib.hid hb1
  clear hb1
  go_wp2_with fail
  refine (R.out _ B1.out).mono ?_
  rintro e w2 ⟨rfl, hb2⟩
  have B2 := Lib.hid (bel2 B1.out hb2)
  clear hb2
  go_wp2_with fail
  go_ret
  exact ⟨rfl, B2.out⟩
set_option maxRecDepth 100000 in
set_option maxHeartbeats 1600000 in
theorem kinds_long (code id z y : Int) (q : Option Addr) (n cap : Nat) (t : List UInt8) (w : World) (a1 : bits .and .i64 code 255 = z) (a2 : bits .and .i64 id 255 = y) (ht : 2044 < t.length) (ht2 : t.length ≤ 4611686018427387904)
    (A : Hid (∀ W, Calls Try.prog 17 #[] W fun e w' => e = .returned (.bool true) ∧ Below W.heap.size W w'))
    (R : Hid (∀ W, Below w.heap.size w W → Calls Try.prog 18 #[.slice q n cap] W fun e w' => e = .returned (.tuple #[.string ⟨t.toArray⟩, .int .i64 0]) ∧ Below W.heap.size W w')) :
    Calls Try.prog 6 #[.int .i64 code, .int .i64 id, .slice q n cap] w fun e w' => e = .returned (.bool true) ∧ Below w.heap.size w w' := by
  go_enter Try.func6, Try.ntmps6
  go_wp2_with fail
  refine (A.out _).mono ?_
  rintro e w1 ⟨rfl, hb1⟩
  have B1 := Lib.hid hb1
  clear hb1
  go_wp2_with fail
  refine (R.out _ B1.out).mono ?_
  rintro e w2 ⟨rfl, hb2⟩
  have B2 := Lib.hid (bel2 B1.out hb2)
  clear hb2
  go_wp2_with fail
  go_ret
  exact ⟨rfl, B2.out⟩
set_option maxRecDepth 100000 in
set_option maxHeartbeats 1600000 in
theorem kinds_c0 (code id z y : Int) (q : Option Addr) (n cap : Nat) (t : List UInt8) (w : World) (a1 : bits .and .i64 code 255 = z) (a2 : bits .and .i64 id 255 = y) (S : ByteArray) (s4 : (4 : Int) ≤ (S.size : Int)) (hcut : S.extract 4 S.size = ⟨t.toArray⟩) (ht : t.length ≤ 2044) (g1 : 1 ≤ z) (g2 : z ≤ 4) (he : t.isEmpty = true) (S2 : ByteArray)
    (A : Hid (∀ W, Calls Try.prog 17 #[] W fun e w' => e = .returned (.bool true) ∧ Below W.heap.size W w'))
    (R : Hid (∀ W, Below w.heap.size w W → Calls Try.prog 18 #[.slice q n cap] W fun e w' => e = .returned (.tuple #[.string ⟨t.toArray⟩, .int .i64 0]) ∧ Below W.heap.size W w'))
    (P1 : Hid (∀ W, Below w.heap.size w W → Calls Try.prog 9 #[.agg #[.int .i64 z, .int .i64 y, .slice q n cap, .string ⟨#[]⟩]] W fun e w' => e = .returned (.tuple #[.string S, .int .i64 0]) ∧ Below W.heap.size W w'))
    (P2 : Hid (∀ W, Calls Try.prog 9 #[.agg #[.int .i64 z, .int .i64 y, .slice none 0 0, .string ⟨t.toArray⟩]] W fun e w' => e = .returned (.tuple #[.string S2, .int .i64 0]) ∧ Below W.heap.size W w')) :
    Calls Try.prog 6 #[.int .i64 code, .int .i64 id, .slice q n cap] w fun e w' => e = .returned (.bool true) ∧ Below w.heap.size w w' := by
  go_enter Try.func6, Try.ntmps6
  go_wp2_with fail
  refine (A.out _).mono ?_
  rintro e w1 ⟨rfl, hb1⟩
  have B1 := Lib.hid hb1
  clear hb1
  go_wp2_with fail
  refine (R.out _ B1.out).mono ?_
  rintro e w2 ⟨rfl, hb2⟩
  have B2 := Lib.hid (bel2 B1.out hb2)
  clear hb2
  go_wp2_with fail
  refine (P1.out _ B2.out).mono ?_
  rintro e w3 ⟨rfl, hb3⟩
  have B3 := Lib.hid (bel2 B2.out hb3)
  clear hb3
  go_wp2_with fail
  refine (P2.out _).mono ?_
  rintro e w4 ⟨rfl, hb4⟩
  have B4 := Lib.hid (bel2 B3.out hb4)
  clear hb4
  go_wp2_with (go_at_call 13; refine (num_any _ _).mono ?_; rintro e w9 ⟨rfl, rfl⟩)
  go_ret
  exact ⟨rfl, B4.out⟩
set_option maxRecDepth 100000 in
set_option maxHeartbeats 1600000 in
theorem kinds_c1 (code id z y : Int) (q : Option Addr) (n cap : Nat) (t : List UInt8) (w : World) (a1 : bits .and .i64 code 255 = z) (a2 : bits .and .i64 id 255 = y) (S : ByteArray) (s4 : (4 : Int) ≤ (S.size : Int)) (hcut : S.extract 4 S.size = ⟨t.toArray⟩) (ht : t.length ≤ 2044) (g1 : 1 ≤ z) (g2 : z ≤ 4) (he : t.isEmpty = false) (S2 : ByteArray)
    (A : Hid (∀ W, Calls Try.prog 17 #[] W fun e w' => e = .returned (.bool true) ∧ Below W.heap.size W w'))
    (R : Hid (∀ W, Below w.heap.size w W → Calls Try.prog 18 #[.slice q n cap] W fun e w' => e = .returned (.tuple #[.string ⟨t.toArray⟩, .int .i64 0]) ∧ Below W.heap.size W w'))
    (P1 : Hid (∀ W, Below w.heap.size w W → Calls Try.prog 9 #[.agg #[.int .i64 z, .int .i64 y, .slice q n cap, .string ⟨#[]⟩]] W fun e w' => e = .returned (.tuple #[.string S, .int .i64 0]) ∧ Below W.heap.size W w'))
    (P2 : Hid (∀ W, Calls Try.prog 9 #[.agg #[.int .i64 z, .int .i64 y, .slice none 0 0, .string ⟨t.toArray⟩]] W fun e w' => e = .returned (.tuple #[.string S2, .int .i64 502]) ∧ Below W.heap.size W w')) :
    Calls Try.prog 6 #[.int .i64 code, .int .i64 id, .slice q n cap] w fun e w' => e = .returned (.bool true) ∧ Below w.heap.size w w' := by
  go_enter Try.func6, Try.ntmps6
  go_wp2_with fail
  refine (A.out _).mono ?_
  rintro e w1 ⟨rfl, hb1⟩
  have B1 := Lib.hid hb1
  clear hb1
  go_wp2_with fail
  refine (R.out _ B1.out).mono ?_
  rintro e w2 ⟨rfl, hb2⟩
  have B2 := Lib.hid (bel2 B1.out hb2)
  clear hb2
  go_wp2_with fail
  refine (P1.out _ B2.out).mono ?_
  rintro e w3 ⟨rfl, hb3⟩
  have B3 := Lib.hid (bel2 B2.out hb3)
  clear hb3
  go_wp2_with fail
  refine (P2.out _).mono ?_
  rintro e w4 ⟨rfl, hb4⟩
  have B4 := Lib.hid (bel2 B3.out hb4)
  clear hb4
  go_wp2_with (go_at_call 13; refine (num_any _ _).mono ?_; rintro e w9 ⟨rfl, rfl⟩)
  go_ret
  exact ⟨rfl, B4.out⟩
set_option maxRecDepth 100000 in
set_option maxHeartbeats 1600000 in
theorem kinds_d0e (code id z y : Int) (q : Option Addr) (n cap : Nat) (t : List UInt8) (w : World) (a1 : bits .and .i64 code 255 = z) (a2 : bits .and .i64 id 255 = y) (S : ByteArray) (s4 : (4 : Int) ≤ (S.size : Int)) (hcut : S.extract 4 S.size = ⟨t.toArray⟩) (ht : t.length ≤ 2044) (g1 : z < 1) (he : ((n : Int) == 0) = true) (S2 : ByteArray)
    (A : Hid (∀ W, Calls Try.prog 17 #[] W fun e w' => e = .returned (.bool true) ∧ Below W.heap.size W w'))
    (R : Hid (∀ W, Below w.heap.size w W → Calls Try.prog 18 #[.slice q n cap] W fun e w' => e = .returned (.tuple #[.string ⟨t.toArray⟩, .int .i64 0]) ∧ Below W.heap.size W w'))
    (P1 : Hid (∀ W, Below w.heap.size w W → Calls Try.prog 9 #[.agg #[.int .i64 z, .int .i64 y, .slice q n cap, .string ⟨#[]⟩]] W fun e w' => e = .returned (.tuple #[.string S2, .int .i64 0]) ∧ Below W.heap.size W w'))
    (P2 : Hid (∀ W, Calls Try.prog 9 #[.agg #[.int .i64 z, .int .i64 y, .slice none 0 0, .string ⟨t.toArray⟩]] W fun e w' => e = .returned (.tuple #[.string S, .int .i64 0]) ∧ Below W.heap.size W w')) :
    Calls Try.prog 6 #[.int .i64 code, .int .i64 id, .slice q n cap] w fun e w' => e = .returned (.bool true) ∧ Below w.heap.size w w' := by
  go_enter Try.func6, Try.ntmps6
  go_wp2_with fail
  refine (A.out _).mono ?_
  rintro e w1 ⟨rfl, hb1⟩
  have B1 := Lib.hid hb1
  clear hb1
  go_wp2_with fail
  refine (R.out _ B1.out).mono ?_
  rintro e w2 ⟨rfl, hb2⟩
  have B2 := Lib.hid (bel2 B1.out hb2)
  clear hb2
  go_wp2_with fail
  refine (P1.out _ B2.out).mono ?_
  rintro e w3 ⟨rfl, hb3⟩
  have B3 := Lib.hid (bel2 B2.out hb3)
  clear hb3
  go_wp2_with fail
  refine (P2.out _).mono ?_
  rintro e w4 ⟨rfl, hb4⟩
  have B4 := Lib.hid (bel2 B3.out hb4)
  clear hb4
  go_wp2_with (go_at_call 13; refine (num_any _ _).mono ?_; rintro e w9 ⟨rfl, rfl⟩)
  go_ret
  exact ⟨rfl, B4.out⟩
set_option maxRecDepth 100000 in
set_option maxHeartbeats 1600000 in
theorem kinds_d0f (code id z y : Int) (q : Option Addr) (n cap : Nat) (t : List UInt8) (w : World) (a1 : bits .and .i64 code 255 = z) (a2 : bits .and .i64 id 255 = y) (S : ByteArray) (s4 : (4 : Int) ≤ (S.size : Int)) (hcut : S.extract 4 S.size = ⟨t.toArray⟩) (ht : t.length ≤ 2044) (g1 : z < 1) (he : ((n : Int) == 0) = false) (S2 : ByteArray)
    (A : Hid (∀ W, Calls Try.prog 17 #[] W fun e w' => e = .returned (.bool true) ∧ Below W.heap.size W w'))
    (R : Hid (∀ W, Below w.heap.size w W → Calls Try.prog 18 #[.slice q n cap] W fun e w' => e = .returned (.tuple #[.string ⟨t.toArray⟩, .int .i64 0]) ∧ Below W.heap.size W w'))
    (P1 : Hid (∀ W, Below w.heap.size w W → Calls Try.prog 9 #[.agg #[.int .i64 z, .int .i64 y, .slice q n cap, .string ⟨#[]⟩]] W fun e w' => e = .returned (.tuple #[.string S2, .int .i64 502]) ∧ Below W.heap.size W w'))
    (P2 : Hid (∀ W, Calls Try.prog 9 #[.agg #[.int .i64 z, .int .i64 y, .slice none 0 0, .string ⟨t.toArray⟩]] W fun e w' => e = .returned (.tuple #[.string S, .int .i64 0]) ∧ Below W.heap.size W w')) :
    Calls Try.prog 6 #[.int .i64 code, .int .i64 id, .slice q n cap] w fun e w' => e = .returned (.bool true) ∧ Below w.heap.size w w' := by
  go_enter Try.func6, Try.ntmps6
  go_wp2_with fail
  refine (A.out _).mono ?_
  rintro e w1 ⟨rfl, hb1⟩
  have B1 := Lib.hid hb1
  clear hb1
  go_wp2_with fail
  refine (R.out _ B1.out).mono ?_
  rintro e w2 ⟨rfl, hb2⟩
  have B2 := Lib.hid (bel2 B1.out hb2)
  clear hb2
  go_wp2_with fail
  refine (P1.out _ B2.out).mono ?_
  rintro e w3 ⟨rfl, hb3⟩
  have B3 := Lib.hid (bel2 B2.out hb3)
  clear hb3
  go_wp2_with fail
  refine (P2.out _).mono ?_
  rintro e w4 ⟨rfl, hb4⟩
  have B4 := Lib.hid (bel2 B3.out hb4)
  clear hb4
  go_wp2_with (go_at_call 13; refine (num_any _ _).mono ?_; rintro e w9 ⟨rfl, rfl⟩)
  go_ret
  exact ⟨rfl, B4.out⟩
set_option maxRecDepth 100000 in
set_option maxHeartbeats 1600000 in
theorem kinds_d5e (code id z y : Int) (q : Option Addr) (n cap : Nat) (t : List UInt8) (w : World) (a1 : bits .and .i64 code 255 = z) (a2 : bits .and .i64 id 255 = y) (S : ByteArray) (s4 : (4 : Int) ≤ (S.size : Int)) (hcut : S.extract 4 S.size = ⟨t.toArray⟩) (ht : t.length ≤ 2044) (g1 : 1 ≤ z) (g2 : 4 < z) (he : ((n : Int) == 0) = true) (S2 : ByteArray)
    (A : Hid (∀ W, Calls Try.prog 17 #[] W fun e w' => e = .returned (.bool true) ∧ Below W.heap.size W w'))
    (R : Hid (∀ W, Below w.heap.size w W → Calls Try.prog 18 #[.slice q n cap] W fun e w' => e = .returned (.tuple #[.string ⟨t.toArray⟩, .int .i64 0]) ∧ Below W.heap.size W w'))
    (P1 : Hid (∀ W, Below w.heap.size w W → Calls Try.prog 9 #[.agg #[.int .i64 z, .int .i64 y, .slice q n cap, .string ⟨#[]⟩]] W fun e w' => e = .returned (.tuple #[.string S2, .int .i64 0]) ∧ Below W.heap.size W w'))
    (P2 : Hid (∀ W, Calls Try.prog 9 #[.agg #[.int .i64 z, .int .i64 y, .slice none 0 0, .string ⟨t.toArray⟩]] W fun e w' => e = .returned (.tuple #[.string S, .int .i64 0]) ∧ Below W.heap.size W w')) :
    Calls Try.prog 6 #[.int .i64 code, .int .i64 id, .slice q n cap] w fun e w' => e = .returned (.bool true) ∧ Below w.heap.size w w' := by
  go_enter Try.func6, Try.ntmps6
  go_wp2_with fail
  refine (A.out _).mono ?_
  rintro e w1 ⟨rfl, hb1⟩
  have B1 := Lib.hid hb1
  clear hb1
  go_wp2_with fail
  refine (R.out _ B1.out).mono ?_
  rintro e w2 ⟨rfl, hb2⟩
  have B2 := Lib.hid (bel2 B1.out hb2)
  clear hb2
  go_wp2_with fail
  refine (P1.out _ B2.out).mono ?_
  rintro e w3 ⟨rfl, hb3⟩
  have B3 := Lib.hid (bel2 B2.out hb3)
  clear hb3
  go_wp2_with fail
  refine (P2.out _).mono ?_
  rintro e w4 ⟨rfl, hb4⟩
  have B4 := Lib.hid (bel2 B3.out hb4)
  clear hb4
  go_wp2_with (go_at_call 13; refine (num_any _ _).mono ?_; rintro e w9 ⟨rfl, rfl⟩)
  go_ret
  exact ⟨rfl, B4.out⟩
set_option maxRecDepth 100000 in
set_option maxHeartbeats 1600000 in
theorem kinds_d5f (code id z y : Int) (q : Option Addr) (n cap : Nat) (t : List UInt8) (w : World) (a1 : bits .and .i64 code 255 = z) (a2 : bits .and .i64 id 255 = y) (S : ByteArray) (s4 : (4 : Int) ≤ (S.size : Int)) (hcut : S.extract 4 S.size = ⟨t.toArray⟩) (ht : t.length ≤ 2044) (g1 : 1 ≤ z) (g2 : 4 < z) (he : ((n : Int) == 0) = false) (S2 : ByteArray)
    (A : Hid (∀ W, Calls Try.prog 17 #[] W fun e w' => e = .returned (.bool true) ∧ Below W.heap.size W w'))
    (R : Hid (∀ W, Below w.heap.size w W → Calls Try.prog 18 #[.slice q n cap] W fun e w' => e = .returned (.tuple #[.string ⟨t.toArray⟩, .int .i64 0]) ∧ Below W.heap.size W w'))
    (P1 : Hid (∀ W, Below w.heap.size w W → Calls Try.prog 9 #[.agg #[.int .i64 z, .int .i64 y, .slice q n cap, .string ⟨#[]⟩]] W fun e w' => e = .returned (.tuple #[.string S2, .int .i64 502]) ∧ Below W.heap.size W w'))
    (P2 : Hid (∀ W, Calls Try.prog 9 #[.agg #[.int .i64 z, .int .i64 y, .slice none 0 0, .string ⟨t.toArray⟩]] W fun e w' => e = .returned (.tuple #[.string S, .int .i64 0]) ∧ Below W.heap.size W w')) :
    Calls Try.prog 6 #[.int .i64 code, .int .i64 id, .slice q n cap] w fun e w' => e = .returned (.bool true) ∧ Below w.heap.size w w' := by
  go_enter Try.func6, Try.ntmps6
  go_wp2_with fail
  refine (A.out _).mono ?_
  rintro e w1 ⟨rfl, hb1⟩
  have B1 := Lib.hid hb1
  clear hb1
  go_wp2_with fail
  refine (R.out _ B1.out).mono ?_
  rintro e w2 ⟨rfl, hb2⟩
  have B2 := Lib.hid (bel2 B1.out hb2)
  clear hb2
  go_wp2_with fail
  refine (P1.out _ B2.out).mono ?_
  rintro e w3 ⟨rfl, hb3⟩
  have B3 := Lib.hid (bel2 B2.out hb3)
  clear hb3
  go_wp2_with fail
  refine (P2.out _).mono ?_
  rintro e w4 ⟨rfl, hb4⟩
  have B4 := Lib.hid (bel2 B3.out hb4)
  clear hb4
  go_wp2_with (go_at_call 13; refine (num_any _ _).mono ?_; rintro e w9 ⟨rfl, rfl⟩)
  go_ret
  exact ⟨rfl, B4.out⟩
theorem code_own (c i : Int) (os : List Opt.Op) (d : List UInt8) (h1 : Ctl.byte c = true) (h2 : Ctl.byte i = true) (h : Ctl.own (c, i, os, d) = false) : Ctl.code (c, i, os, d) = 502 := by
  unfold Ctl.code
  rw [if_pos ⟨h1, h2⟩, if_neg (by rw [h]; simp)]
theorem wire_tail (p : Ctl.Pk) (h : Ctl.code p = 0) : (4 : Int) ≤ ((ByteArray.mk (Ctl.put p).toArray).size : Int) ∧ (ByteArray.mk (Ctl.put p).toArray).extract 4 (ByteArray.mk (Ctl.put p).toArray).size = ⟨(Ctl.body p).toArray⟩ := by
  constructor
  · rw [sz, Ctl.put_good p h, Ctl.wire_length]; omega
  · rw [O.tail_list, Ctl.put_good p h]
    rfl
theorem walk_kinds (code id : Int) (v : Value) (os : List Opt.Op) (w : World) (_ : (Lit.int .i64 code).wf = true) (_ : (Lit.int .i64 id).wf = true) (hr : ReadsO w v os) (hl : os.length * 24 ≤ 140737488351232) (hd : ∀ o ∈ os, o.2.length ≤ 140737488351232) :
    Calls Try.prog 6 #[.int .i64 code, .int .i64 id, v] w fun e w' => e = .returned (.bool true) ∧ Below w.heap.size w w' := by
  have a1 := i64_and255 code
  have a2 := i64_and255 id
  obtain ⟨z, hz⟩ : ∃ z, z = code % 256 := ⟨_, rfl⟩
  obtain ⟨y, hy⟩ : ∃ y, y = id % 256 := ⟨_, rfl⟩
  rw [← hz] at a1
  rw [← hy] at a2
  have bz := byte_yes z (by omega) (by omega)
  have bY := byte_yes y (by omega) (by omega)
  clear hz hy
  have hl2 : os.length ≤ 4611686018427387904 := by omega
  have A := Lib.hid fun W => awake_any W
  have R : ∀ W, Below w.heap.size w W → _ := fun W hb => O.ropts_any v os W (hr.below hb) hl2 (fun o ho => by have := hd o ho; omega)
  have P1 : ∀ W, Below w.heap.size w W → _ := fun W hb => cput_any z y v os [] W (hr.below hb) hl2 (by simp)
  obtain ⟨q, cap, b, off, rfl, _⟩ := hr.at
  by_cases he : Opt.code os = 0
  · obtain ⟨t1, t2⟩ := opt_put_len os he
    rw [he, t1] at R
    have P2 := fun W => cput_any z y _ [] (Opt.wires os) W (reads_nil W) (by simp) (by omega)
    by_cases hlong : 2044 < (Opt.wires os).length
    · exact kinds_long code id z y q _ cap _ w a1 a2 hlong (by omega) A (Lib.hid R)
    · cases hc : Ctl.conf z
      · have e2 := code_data z y (Opt.wires os) bz bY hc (by omega)
        obtain ⟨s4, hcut⟩ := wire_tail _ e2
        have hb : Ctl.body (z, y, [], Opt.wires os) = Opt.wires os := by simp [Ctl.body, hc]
        rw [hb] at hcut
        rw [e2] at P2
        by_cases hos : os = []
        · have e1 : Ctl.code (z, y, os, []) = 0 := by rw [hos]; exact code_data z y [] bz bY hc (by simp)
          rw [e1] at P1
          have hq : ((os.length : Int) == 0) = true := by rw [hos]; rfl
          rcases conf_out z hc with g | g
          · exact kinds_d0e code id z y q _ cap _ w a1 a2 _ s4 hcut (by omega) g hq _ A (Lib.hid R) (Lib.hid P1) (Lib.hid P2)
          · exact kinds_d5e code id z y q _ cap _ w a1 a2 _ s4 hcut (by omega) (by omega) g hq _ A (Lib.hid R) (Lib.hid P1) (Lib.hid P2)
        · have e1 : Ctl.code (z, y, os, []) = 502 := code_own z y os [] bz bY (by simp [Ctl.own, hc, hos])
          rw [e1] at P1
          have hq : ((os.length : Int) == 0) = false := by
            rw [beq_eq_false_iff_ne]
            have := List.length_pos_iff.2 hos
            omega
          rcases conf_out z hc with g | g
          · exact kinds_d0f code id z y q _ cap _ w a1 a2 _ s4 hcut (by omega) g hq _ A (Lib.hid R) (Lib.hid P1) (Lib.hid P2)
          · exact kinds_d5f code id z y q _ cap _ w a1 a2 _ s4 hcut (by omega) (by omega) g hq _ A (Lib.hid R) (Lib.hid P1) (Lib.hid P2)
      · obtain ⟨g1, g2⟩ := conf_in z hc
        have e1 := code_conf z y os bz bY hc he (by omega)
        obtain ⟨s4, hcut⟩ := wire_tail _ e1
        have hb : Ctl.body (z, y, os, []) = Opt.wires os := by simp [Ctl.body, hc]
        rw [hb] at hcut
        rw [e1] at P1
        cases hemp : (Opt.wires os).isEmpty
        · have e2 : Ctl.code (z, y, [], Opt.wires os) = 502 := code_own z y [] _ bz bY (by simp only [Ctl.own, hc, hemp]; rfl)
          rw [e2] at P2
          exact kinds_c1 code id z y q _ cap _ w a1 a2 _ s4 hcut (by omega) g1 g2 hemp _ A (Lib.hid R) (Lib.hid P1) (Lib.hid P2)
        · have e2 : Ctl.code (z, y, [], Opt.wires os) = 0 := by
            rw [List.isEmpty_iff.1 hemp]
            exact code_conf z y [] bz bY hc Ctl.code_nil (by simp [Opt.wires_nil])
          rw [e2] at P2
          exact kinds_c0 code id z y q _ cap _ w a1 a2 _ s4 hcut (by omega) g1 g2 hemp _ A (Lib.hid R) (Lib.hid P1) (Lib.hid P2)
  · have hq : (Opt.code os != 0) = true := by simpa using he
    exact kinds_bad code id z y q _ cap _ w a1 a2 _ hq A (Lib.hid R)
end Go.Proofs.Ytoodhbdgnfmofaa.C
