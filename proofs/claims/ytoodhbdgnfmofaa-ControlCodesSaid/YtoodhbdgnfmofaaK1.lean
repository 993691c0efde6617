/-
  The walk of the law of each code with its options or bytes.
-/
import Derived.Test.YtoodhbdgnfmofaaCA
namespace Go.Proofs.Ytoodhbdgnfmofaa.C
open Go.RowKit
set_option maxRecDepth 100000 in
set_option maxHeartbeats 1600000 in
theorem codes_s1 (code id z y : Int) (dl : List UInt8) (S : ByteArray) (w : World) (hs : dl.length ≤ 100) (a1 : bits .and .i64 code 255 = z) (a2 : bits .and .i64 id 255 = y) (z1 : 0 ≤ z) (z2 : z ≤ 255) (y1 : 0 ≤ y) (y2 : y ≤ 255) (g1 : 1 ≤ z) (g2 : z ≤ 4)
    (A : Hid (∀ W, Calls Try.prog 17 #[] W fun e w' => e = .returned (.bool true) ∧ Below W.heap.size W w'))
    (P : Hid (∀ W v, ReadsO W v [(3, dl)] → Calls Try.prog 9 #[.agg #[.int .i64 z, .int .i64 y, v, .string ⟨#[]⟩]] W fun e w' => e = .returned (.tuple #[.string S, .int .i64 0]) ∧ Below W.heap.size W w'))
    (G : Hid (∀ W, Calls Try.prog 11 #[.string S] W (PkPost ((z, y, [(3, dl)], []), 0) W)))
    (P3 : Hid (∀ W, Calls Try.prog 9 #[.agg #[.int .i64 (256 + z), .int .i64 1, .slice none 0 0, .string ⟨#[]⟩]] W fun e w' => e = .returned (.tuple #[.string ⟨#[]⟩, .int .i64 501]) ∧ Below W.heap.size W w'))
    (P4 : Hid (∀ W, Calls Try.prog 9 #[.agg #[.int .i64 9, .int .i64 (-1 - y), .slice none 0 0, .string ⟨#[]⟩]] W fun e w' => e = .returned (.tuple #[.string ⟨#[]⟩, .int .i64 501]) ∧ Below W.heap.size W w'))
    (SM : Hid (∀ W va vb, ReadsO W va [(3, dl)] → ReadsO W vb [(3, dl)] → Calls Try.prog 14 #[.agg #[.int .i64 z, .int .i64 y, va, .string ⟨#[]⟩], .agg #[.int .i64 z, .int .i64 y, vb, .string ⟨#[]⟩]] W fun e w' => e = .returned (.bool true) ∧ Below W.heap.size W w')) :
    Calls Try.prog 7 #[.int .i64 code, .int .i64 id, .string ⟨dl.toArray⟩] w fun e w' => e = .returned (.bool true) ∧ Below w.heap.size w w' := by
  go_enter Try.func7, Try.ntmps7
  go_wp2_with fail
  refine (A.out _).mono ?_
  rintro e w1 ⟨rfl, hb1⟩
  have B1 := Lib.hid hb1
  clear hb1
  have R0 := Lib.hid (reads_lit_at (w1.alloc (.cells #[.int .i64 z, .int .i64 y, .slice (some ⟨w1.heap.size + 1, 0, none⟩) 1 1, .string ⟨#[]⟩] 24)) (w1.heap.size + 1) (by simp) [(3, dl)] #[.int .i64 3, .string ⟨dl.toArray⟩] rfl)
  have X0 := Lib.hid ((Box.new w1 [.int .i64 z, .int .i64 y, .slice (some ⟨w1.heap.size + 1, 0, none⟩) 1 1, .string ⟨#[]⟩] 24).alloc (.cells #[.int .i64 3, .string ⟨dl.toArray⟩] 46))
  have B0 := Lib.hid ((B1.out.alloc B1.out.size (.cells #[.int .i64 z, .int .i64 y, .slice (some ⟨w1.heap.size + 1, 0, none⟩) 1 1, .string ⟨#[]⟩] 24)).alloc (by have := B1.out.size; simp; omega) (.cells #[.int .i64 3, .string ⟨dl.toArray⟩] 46))
  go_wp2_with fail
  refine (P.out _ _ R0.out).mono ?_
  rintro e w2 ⟨rfl, hb2⟩
  have R2 := Lib.hid (R0.out.below hb2)
  have X2 := Lib.hid (X0.out.below hb2)
  have B2 := Lib.hid (bel2 B0.out hb2)
  clear hb2
  go_wp2_with fail
  refine (G.out _).mono ?_
  rintro e w3 ⟨v, rfl, ho⟩
  obtain ⟨p, cap, rfl⟩ := ho.form2
  have Q3 := Lib.hid (ho.reads)
  have R3 := Lib.hid (R2.out.below ho.2)
  have X3 := Lib.hid (X2.out.below ho.2)
  have B3 := Lib.hid (bel2 B2.out ho.2)
  clear ho
  have Y3 := Lib.hid (Box.new w3 [.int .i64 z, .int .i64 y, .slice p 1 cap, .string ⟨#[]⟩] 24)
  go_wp2_with fail
  refine (P3.out _).mono ?_
  rintro e w4 ⟨rfl, hb4⟩
  have H4 := Lib.hid (bel2 ((Below.refl w3.heap.size w3).alloc (Nat.le_refl _) _) hb4)
  have Y4 := Lib.hid (Y3.out.below hb4)
  clear hb4
  go_wp2_with fail
  refine (P4.out _).mono ?_
  rintro e w5 ⟨rfl, hb5⟩
  have H5 := Lib.hid (bel2 H4.out hb5)
  have Y5 := Y4.out.below hb5
  have X5 := X3.out.below H5.out
  have B5 := Lib.hid (bel2 B3.out H5.out)
  have Q5 := Lib.hid (Q3.out.below H5.out)
  have R5 := Lib.hid (R3.out.below H5.out)
  have k0 := X5 0 _ rfl
  have k1 := X5 1 _ rfl
  have k2 := X5 2 _ rfl
  have k3 := X5 3 _ rfl
  have m0 := Y5 0 _ rfl
  have m1 := Y5 1 _ rfl
  have m2 := Y5 2 _ rfl
  have m3 := Y5 3 _ rfl
  clear hb5 X5 Y5
  go_wp2_with (first | (go_at_call 13; refine (num_any _ _).mono ?_; rintro e w9 ⟨rfl, rfl⟩) | (refine (SM.out _ _ _ Q5.out R5.out).mono ?_; rintro e w6 ⟨rfl, hb6⟩; have B6 := Lib.hid (bel2 B5.out hb6); clear hb6))
  go_ret
  exact ⟨rfl, B6.out⟩
set_option maxRecDepth 100000 in
set_option maxHeartbeats 1600000 in
theorem codes_l1 (code id z y : Int) (dl : List UInt8) (S : ByteArray) (w : World) (s : ByteArray) (hs : 100 < s.size) (hsm : s.size ≤ 9223372036854775807) (hcut : s.extract 0 100 = ⟨dl.toArray⟩) (a1 : bits .and .i64 code 255 = z) (a2 : bits .and .i64 id 255 = y) (z1 : 0 ≤ z) (z2 : z ≤ 255) (y1 : 0 ≤ y) (y2 : y ≤ 255) (g1 : 1 ≤ z) (g2 : z ≤ 4)
    (A : Hid (∀ W, Calls Try.prog 17 #[] W fun e w' => e = .returned (.bool true) ∧ Below W.heap.size W w'))
    (P : Hid (∀ W v, ReadsO W v [(3, dl)] → Calls Try.prog 9 #[.agg #[.int .i64 z, .int .i64 y, v, .string ⟨#[]⟩]] W fun e w' => e = .returned (.tuple #[.string S, .int .i64 0]) ∧ Below W.heap.size W w'))
    (G : Hid (∀ W, Calls Try.prog 11 #[.string S] W (PkPost ((z, y, [(3, dl)], []), 0) W)))
    (P3 : Hid (∀ W, Calls Try.prog 9 #[.agg #[.int .i64 (256 + z), .int .i64 1, .slice none 0 0, .string ⟨#[]⟩]] W fun e w' => e = .returned (.tuple #[.string ⟨#[]⟩, .int .i64 501]) ∧ Below W.heap.size W w'))
    (P4 : Hid (∀ W, Calls Try.prog 9 #[.agg #[.int .i64 9, .int .i64 (-1 - y), .slice none 0 0, .string ⟨#[]⟩]] W fun e w' => e = .returned (.tuple #[.string ⟨#[]⟩, .int .i64 501]) ∧ Below W.heap.size W w'))
    (SM : Hid (∀ W va vb, ReadsO W va [(3, dl)] → ReadsO W vb [(3, dl)] → Calls Try.prog 14 #[.agg #[.int .i64 z, .int .i64 y, va, .string ⟨#[]⟩], .agg #[.int .i64 z, .int .i64 y, vb, .string ⟨#[]⟩]] W fun e w' => e = .returned (.bool true) ∧ Below W.heap.size W w')) :
    Calls Try.prog 7 #[.int .i64 code, .int .i64 id, .string s] w fun e w' => e = .returned (.bool true) ∧ Below w.heap.size w w' := by
  go_enter Try.func7, Try.ntmps7
  go_wp2_with fail
  refine (A.out _).mono ?_
  rintro e w1 ⟨rfl, hb1⟩
  have B1 := Lib.hid hb1
  clear hb1
  have R0 := Lib.hid (reads_lit_at (w1.alloc (.cells #[.int .i64 z, .int .i64 y, .slice (some ⟨w1.heap.size + 1, 0, none⟩) 1 1, .string ⟨#[]⟩] 24)) (w1.heap.size + 1) (by simp) [(3, dl)] #[.int .i64 3, .string ⟨dl.toArray⟩] rfl)
  have X0 := Lib.hid ((Box.new w1 [.int .i64 z, .int .i64 y, .slice (some ⟨w1.heap.size + 1, 0, none⟩) 1 1, .string ⟨#[]⟩] 24).alloc (.cells #[.int .i64 3, .string ⟨dl.toArray⟩] 46))
  have B0 := Lib.hid ((B1.out.alloc B1.out.size (.cells #[.int .i64 z, .int .i64 y, .slice (some ⟨w1.heap.size + 1, 0, none⟩) 1 1, .string ⟨#[]⟩] 24)).alloc (by have := B1.out.size; simp; omega) (.cells #[.int .i64 3, .string ⟨dl.toArray⟩] 46))
  go_wp2_with fail
  refine (P.out _ _ R0.out).mono ?_
  rintro e w2 ⟨rfl, hb2⟩
  have R2 := Lib.hid (R0.out.below hb2)
  have X2 := Lib.hid (X0.out.below hb2)
  have B2 := Lib.hid (bel2 B0.out hb2)
  clear hb2
  go_wp2_with fail
  refine (G.out _).mono ?_
  rintro e w3 ⟨v, rfl, ho⟩
  obtain ⟨p, cap, rfl⟩ := ho.form2
  have Q3 := Lib.hid (ho.reads)
  have R3 := Lib.hid (R2.out.below ho.2)
  have X3 := Lib.hid (X2.out.below ho.2)
  have B3 := Lib.hid (bel2 B2.out ho.2)
  clear ho
  have Y3 := Lib.hid (Box.new w3 [.int .i64 z, .int .i64 y, .slice p 1 cap, .string ⟨#[]⟩] 24)
  go_wp2_with fail
  refine (P3.out _).mono ?_
  rintro e w4 ⟨rfl, hb4⟩
  have H4 := Lib.hid (bel2 ((Below.refl w3.heap.size w3).alloc (Nat.le_refl _) _) hb4)
  have Y4 := Lib.hid (Y3.out.below hb4)
  clear hb4
  go_wp2_with fail
  refine (P4.out _).mono ?_
  rintro e w5 ⟨rfl, hb5⟩
  have H5 := Lib.hid (bel2 H4.out hb5)
  have Y5 := Y4.out.below hb5
  have X5 := X3.out.below H5.out
  have B5 := Lib.hid (bel2 B3.out H5.out)
  have Q5 := Lib.hid (Q3.out.below H5.out)
  have R5 := Lib.hid (R3.out.below H5.out)
  have k0 := X5 0 _ rfl
  have k1 := X5 1 _ rfl
  have k2 := X5 2 _ rfl
  have k3 := X5 3 _ rfl
  have m0 := Y5 0 _ rfl
  have m1 := Y5 1 _ rfl
  have m2 := Y5 2 _ rfl
  have m3 := Y5 3 _ rfl
  clear hb5 X5 Y5
  go_wp2_with (first | (go_at_call 13; refine (num_any _ _).mono ?_; rintro e w9 ⟨rfl, rfl⟩) | (refine (SM.out _ _ _ Q5.out R5.out).mono ?_; rintro e w6 ⟨rfl, hb6⟩; have B6 := Lib.hid (bel2 B5.out hb6); clear hb6))
  go_ret
  exact ⟨rfl, B6.out⟩
set_option maxRecDepth 100000 in
set_option maxHeartbeats 1600000 in
theorem codes_s0 (code id z y : Int) (dl : List UInt8) (S : ByteArray) (w : World) (hs : dl.length ≤ 100) (a1 : bits .and .i64 code 255 = z) (a2 : bits .and .i64 id 255 = y) (z1 : 0 ≤ z) (z2 : z ≤ 255) (y1 : 0 ≤ y) (y2 : y ≤ 255) (g1 : z < 1)
    (A : Hid (∀ W, Calls Try.prog 17 #[] W fun e w' => e = .returned (.bool true) ∧ Below W.heap.size W w'))
    (P : Hid (∀ W, Calls Try.prog 9 #[.agg #[.int .i64 z, .int .i64 y, .slice none 0 0, .string ⟨dl.toArray⟩]] W fun e w' => e = .returned (.tuple #[.string S, .int .i64 0]) ∧ Below W.heap.size W w'))
    (G : Hid (∀ W, Calls Try.prog 11 #[.string S] W (PkPost ((z, y, [], dl), 0) W)))
    (P3 : Hid (∀ W, Calls Try.prog 9 #[.agg #[.int .i64 (256 + z), .int .i64 1, .slice none 0 0, .string ⟨#[]⟩]] W fun e w' => e = .returned (.tuple #[.string ⟨#[]⟩, .int .i64 501]) ∧ Below W.heap.size W w'))
    (P4 : Hid (∀ W, Calls Try.prog 9 #[.agg #[.int .i64 9, .int .i64 (-1 - y), .slice none 0 0, .string ⟨#[]⟩]] W fun e w' => e = .returned (.tuple #[.string ⟨#[]⟩, .int .i64 501]) ∧ Below W.heap.size W w'))
    (SM : Hid (∀ W va vb, ReadsO W va [] → ReadsO W vb [] → Calls Try.prog 14 #[.agg #[.int .i64 z, .int .i64 y, va, .string ⟨dl.toArray⟩], .agg #[.int .i64 z, .int .i64 y, vb, .string ⟨dl.toArray⟩]] W fun e w' => e = .returned (.bool true) ∧ Below W.heap.size W w')) :
    Calls Try.prog 7 #[.int .i64 code, .int .i64 id, .string ⟨dl.toArray⟩] w fun e w' => e = .returned (.bool true) ∧ Below w.heap.size w w' := by
  go_enter Try.func7, Try.ntmps7
  go_wp2_with fail
  refine (A.out _).mono ?_
  rintro e w1 ⟨rfl, hb1⟩
  have B1 := Lib.hid hb1
  clear hb1
  have R0 := Lib.hid (reads_nil (w1.alloc (.cells #[.int .i64 z, .int .i64 y, .slice none 0 0, .string ⟨dl.toArray⟩] 24)))
  have X0 := Lib.hid (Box.new w1 [.int .i64 z, .int .i64 y, .slice none 0 0, .string ⟨dl.toArray⟩] 24)
  have B0 := Lib.hid (B1.out.alloc B1.out.size (.cells #[.int .i64 z, .int .i64 y, .slice none 0 0, .string ⟨dl.toArray⟩] 24))
  go_wp2_with fail
  refine (P.out _).mono ?_
  rintro e w2 ⟨rfl, hb2⟩
  have R2 := Lib.hid (R0.out.below hb2)
  have X2 := Lib.hid (X0.out.below hb2)
  have B2 := Lib.hid (bel2 B0.out hb2)
  clear hb2
  go_wp2_with fail
  refine (G.out _).mono ?_
  rintro e w3 ⟨v, rfl, ho⟩
  obtain ⟨p, cap, rfl⟩ := ho.form2
  have Q3 := Lib.hid (ho.reads)
  have R3 := Lib.hid (R2.out.below ho.2)
  have X3 := Lib.hid (X2.out.below ho.2)
  have B3 := Lib.hid (bel2 B2.out ho.2)
  clear ho
  have Y3 := Lib.hid (Box.new w3 [.int .i64 z, .int .i64 y, .slice p 0 cap, .string ⟨dl.toArray⟩] 24)
  go_wp2_with fail
  refine (P3.out _).mono ?_
  rintro e w4 ⟨rfl, hb4⟩
  have H4 := Lib.hid (bel2 ((Below.refl w3.heap.size w3).alloc (Nat.le_refl _) _) hb4)
  have Y4 := Lib.hid (Y3.out.below hb4)
  clear hb4
  go_wp2_with fail
  refine (P4.out _).mono ?_
  rintro e w5 ⟨rfl, hb5⟩
  have H5 := Lib.hid (bel2 H4.out hb5)
  have Y5 := Y4.out.below hb5
  have X5 := X3.out.below H5.out
  have B5 := Lib.hid (bel2 B3.out H5.out)
  have Q5 := Lib.hid (Q3.out.below H5.out)
  have R5 := Lib.hid (R3.out.below H5.out)
  have k0 := X5 0 _ rfl
  have k1 := X5 1 _ rfl
  have k2 := X5 2 _ rfl
  have k3 := X5 3 _ rfl
  have m0 := Y5 0 _ rfl
  have m1 := Y5 1 _ rfl
  have m2 := Y5 2 _ rfl
  have m3 := Y5 3 _ rfl
  clear hb5 X5 Y5
  go_wp2_with (first | (go_at_call 13; refine (num_any _ _).mono ?_; rintro e w9 ⟨rfl, rfl⟩) | (refine (SM.out _ _ _ Q5.out R5.out).mono ?_; rintro e w6 ⟨rfl, hb6⟩; have B6 := Lib.hid (bel2 B5.out hb6); clear hb6))
  go_ret
  exact ⟨rfl, B6.out⟩
set_option maxRecDepth 100000 in
set_option maxHeartbeats 1600000 in
theorem codes_l0 (code id z y : Int) (dl : List UInt8) (S : ByteArray) (w : World) (s : ByteArray) (hs : 100 < s.size) (hsm : s.size ≤ 9223372036854775807) (hcut : s.extract 0 100 = ⟨dl.toArray⟩) (a1 : bits .and .i64 code 255 = z) (a2 : bits .and .i64 id 255 = y) (z1 : 0 ≤ z) (z2 : z ≤ 255) (y1 : 0 ≤ y) (y2 : y ≤ 255) (g1 : z < 1)
    (A : Hid (∀ W, Calls Try.prog 17 #[] W fun e w' => e = .returned (.bool true) ∧ Below W.heap.size W w'))
    (P : Hid (∀ W, Calls Try.prog 9 #[.agg #[.int .i64 z, .int .i64 y, .slice none 0 0, .string ⟨dl.toArray⟩]] W fun e w' => e = .returned (.tuple #[.string S, .int .i64 0]) ∧ Below W.heap.size W w'))
    (G : Hid (∀ W, Calls Try.prog 11 #[.string S] W (PkPost ((z, y, [], dl), 0) W)))
    (P3 : Hid (∀ W, Calls Try.prog 9 #[.agg #[.int .i64 (256 + z), .int .i64 1, .slice none 0 0, .string ⟨#[]⟩]] W fun e w' => e = .returned (.tuple #[.string ⟨#[]⟩, .int .i64 501]) ∧ Below W.heap.size W w'))
    (P4 : Hid (∀ W, Calls Try.prog 9 #[.agg #[.int .i64 9, .int .i64 (-1 - y), .slice none 0 0, .string ⟨#[]⟩]] W fun e w' => e = .returned (.tuple #[.string ⟨#[]⟩, .int .i64 501]) ∧ Below W.heap.size W w'))
    (SM : Hid (∀ W va vb, ReadsO W va [] → ReadsO W vb [] → Calls Try.prog 14 #[.agg #[.int .i64 z, .int .i64 y, va, .string ⟨dl.toArray⟩], .agg #[.int .i64 z, .int .i64 y, vb, .string ⟨dl.toArray⟩]] W fun e w' => e = .returned (.bool true) ∧ Below W.heap.size W w')) :
    Calls Try.prog 7 #[.int .i64 code, .int .i64 id, .string s] w fun e w' => e = .returned (.bool true) ∧ Below w.heap.size w w' := by
  go_enter Try.func7, Try.ntmps7
  go_wp2_with fail
  refine (A.out _).mono ?_
  rintro e w1 ⟨rfl, hb1⟩
  have B1 := Lib.hid hb1
  clear hb1
  have R0 := Lib.hid (reads_nil (w1.alloc (.cells #[.int .i64 z, .int .i64 y, .slice none 0 0, .string ⟨dl.toArray⟩] 24)))
  have X0 := Lib.hid (Box.new w1 [.int .i64 z, .int .i64 y, .slice none 0 0, .string ⟨dl.toArray⟩] 24)
  have B0 := Lib.hid (B1.out.alloc B1.out.size (.cells #[.int .i64 z, .int .i64 y, .slice none 0 0, .string ⟨dl.toArray⟩] 24))
  go_wp2_with fail
  refine (P.out _).mono ?_
  rintro e w2 ⟨rfl, hb2⟩
  have R2 := Lib.hid (R0.out.below hb2)
  have X2 := Lib.hid (X0.out.below hb2)
  have B2 := Lib.hid (bel2 B0.out hb2)
  clear hb2
  go_wp2_with fail
  refine (G.out _).mono ?_
  rintro e w3 ⟨v, rfl, ho⟩
  obtain ⟨p, cap, rfl⟩ := ho.form2
  have Q3 := Lib.hid (ho.reads)
  have R3 := Lib.hid (R2.out.below ho.2)
  have X3 := Lib.hid (X2.out.below ho.2)
  have B3 := Lib.hid (bel2 B2.out ho.2)
  clear ho
  have Y3 := Lib.hid (Box.new w3 [.int .i64 z, .int .i64 y, .slice p 0 cap, .string ⟨dl.toArray⟩] 24)
  go_wp2_with fail
  refine (P3.out _).mono ?_
  rintro e w4 ⟨rfl, hb4⟩
  have H4 := Lib.hid (bel2 ((Below.refl w3.heap.size w3).alloc (Nat.le_refl _) _) hb4)
  have Y4 := Lib.hid (Y3.out.below hb4)
  clear hb4
  go_wp2_with fail
  refine (P4.out _).mono ?_
  rintro e w5 ⟨rfl, hb5⟩
  have H5 := Lib.hid (bel2 H4.out hb5)
  have Y5 := Y4.out.below hb5
  have X5 := X3.out.below H5.out
  have B5 := Lib.hid (bel2 B3.out H5.out)
  have Q5 := Lib.hid (Q3.out.below H5.out)
  have R5 := Lib.hid (R3.out.below H5.out)
  have k0 := X5 0 _ rfl
  have k1 := X5 1 _ rfl
  have k2 := X5 2 _ rfl
  have k3 := X5 3 _ rfl
  have m0 := Y5 0 _ rfl
  have m1 := Y5 1 _ rfl
  have m2 := Y5 2 _ rfl
  have m3 := Y5 3 _ rfl
  clear hb5 X5 Y5
  go_wp2_with (first | (go_at_call 13; refine (num_any _ _).mono ?_; rintro e w9 ⟨rfl, rfl⟩) | (refine (SM.out _ _ _ Q5.out R5.out).mono ?_; rintro e w6 ⟨rfl, hb6⟩; have B6 := Lib.hid (bel2 B5.out hb6); clear hb6))
  go_ret
  exact ⟨rfl, B6.out⟩
set_option maxRecDepth 100000 in
set_option maxHeartbeats 1600000 in
theorem codes_s5 (code id z y : Int) (dl : List UInt8) (S : ByteArray) (w : World) (hs : dl.length ≤ 100) (a1 : bits .and .i64 code 255 = z) (a2 : bits .and .i64 id 255 = y) (z1 : 0 ≤ z) (z2 : z ≤ 255) (y1 : 0 ≤ y) (y2 : y ≤ 255) (g1 : 1 ≤ z) (g2 : 4 < z)
    (A : Hid (∀ W, Calls Try.prog 17 #[] W fun e w' => e = .returned (.bool true) ∧ Below W.heap.size W w'))
    (P : Hid (∀ W, Calls Try.prog 9 #[.agg #[.int .i64 z, .int .i64 y, .slice none 0 0, .string ⟨dl.toArray⟩]] W fun e w' => e = .returned (.tuple #[.string S, .int .i64 0]) ∧ Below W.heap.size W w'))
    (G : Hid (∀ W, Calls Try.prog 11 #[.string S] W (PkPost ((z, y, [], dl), 0) W)))
    (P3 : Hid (∀ W, Calls Try.prog 9 #[.agg #[.int .i64 (256 + z), .int .i64 1, .slice none 0 0, .string ⟨#[]⟩]] W fun e w' => e = .returned (.tuple #[.string ⟨#[]⟩, .int .i64 501]) ∧ Below W.heap.size W w'))
    (P4 : Hid (∀ W, Calls Try.prog 9 #[.agg #[.int .i64 9, .int .i64 (-1 - y), .slice none 0 0, .string ⟨#[]⟩]] W fun e w' => e = .returned (.tuple #[.string ⟨#[]⟩, .int .i64 501]) ∧ Below W.heap.size W w'))
    (SM : Hid (∀ W va vb, ReadsO W va [] → ReadsO W vb [] → Calls Try.prog 14 #[.agg #[.int .i64 z, .int .i64 y, va, .string ⟨dl.toArray⟩], .agg #[.int .i64 z, .int .i64 y, vb, .string ⟨dl.toArray⟩]] W fun e w' => e = .returned (.bool true) ∧ Below W.heap.size W w')) :
    Calls Try.prog 7 #[.int .i64 code, .int .i64 id, .string ⟨dl.toArray⟩] w fun e w' => e = .returned (.bool true) ∧ Below w.heap.size w w' := by
  go_enter Try.func7, Try.ntmps7
  go_wp2_with fail
  refine (A.out _).mono ?_
  rintro e w1 ⟨rfl, hb1⟩
  have B1 := Lib.hid hb1
  clear hb1
  have R0 := Lib.hid (reads_nil (w1.alloc (.cells #[.int .i64 z, .int .i64 y, .slice none 0 0, .string ⟨dl.toArray⟩] 24)))
  have X0 := Lib.hid (Box.new w1 [.int .i64 z, .int .i64 y, .slice none 0 0, .string ⟨dl.toArray⟩] 24)
  have B0 := Lib.hid (B1.out.alloc B1.out.size (.cells #[.int .i64 z, .int .i64 y, .slice none 0 0, .string ⟨dl.toArray⟩] 24))
  go_wp2_with fail
  refine (P.out _).mono ?_
  rintro e w2 ⟨rfl, hb2⟩
  have R2 := Lib.hid (R0.out.below hb2)
  have X2 := Lib.hid (X0.out.below hb2)
  have B2 := Lib.hid (bel2 B0.out hb2)
  clear hb2
  go_wp2_with fail
  refine (G.out _).mono ?_
  rintro e w3 ⟨v, rfl, ho⟩
  obtain ⟨p, cap, rfl⟩ := ho.form2
  have Q3 := Lib.hid (ho.reads)
  have R3 := Lib.hid (R2.out.below ho.2)
  have X3 := Lib.hid (X2.out.below ho.2)
  have B3 := Lib.hid (bel2 B2.out ho.2)
  clear ho
  have Y3 := Lib.hid (Box.new w3 [.int .i64 z, .int .i64 y, .slice p 0 cap, .string ⟨dl.toArray⟩] 24)
  go_wp2_with fail
  refine (P3.out _).mono ?_
  rintro e w4 ⟨rfl, hb4⟩
  have H4 := Lib.hid (bel2 ((Below.refl w3.heap.size w3).alloc (Nat.le_refl _) _) hb4)
  have Y4 := Lib.hid (Y3.out.below hb4)
  clear hb4
  go_wp2_with fail
  refine (P4.out _).mono ?_
  rintro e w5 ⟨rfl, hb5⟩
  have H5 := Lib.hid (bel2 H4.out hb5)
  have Y5 := Y4.out.below hb5
  have X5 := X3.out.below H5.out
  have B5 := Lib.hid (bel2 B3.out H5.out)
  have Q5 := Lib.hid (Q3.out.below H5.out)
  have R5 := Lib.hid (R3.out.below H5.out)
  have k0 := X5 0 _ rfl
  have k1 := X5 1 _ rfl
  have k2 := X5 2 _ rfl
  have k3 := X5 3 _ rfl
  have m0 := Y5 0 _ rfl
  have m1 := Y5 1 _ rfl
  have m2 := Y5 2 _ rfl
  have m3 := Y5 3 _ rfl
  clear hb5 X5 Y5
  go_wp2_with (first | (go_at_call 13; refine (num_any _ _).mono ?_; rintro e w9 ⟨rfl, rfl⟩) | (refine (SM.out _ _ _ Q5.out R5.out).mono ?_; rintro e w6 ⟨rfl, hb6⟩; have B6 := Lib.hid (bel2 B5.out hb6); clear hb6))
  go_ret
  exact ⟨rfl, B6.out⟩
set_option maxRecDepth 100000 in
set_option maxHeartbeats 1600000 in
theorem codes_l5 (code id z y : Int) (dl : List UInt8) (S : ByteArray) (w : World) (s : ByteArray) (hs : 100 < s.size) (hsm : s.size ≤ 9223372036854775807) (hcut : s.extract 0 100 = ⟨dl.toArray⟩) (a1 : bits .and .i64 code 255 = z) (a2 : bits .and .i64 id 255 = y) (z1 : 0 ≤ z) (z2 : z ≤ 255) (y1 : 0 ≤ y) (y2 : y ≤ 255) (g1 : 1 ≤ z) (g2 : 4 < z)
    (A : Hid (∀ W, Calls Try.prog 17 #[] W fun e w' => e = .returned (.bool true) ∧ Below W.heap.size W w'))
    (P : Hid (∀ W, Calls Try.prog 9 #[.agg #[.int .i64 z, .int .i64 y, .slice none 0 0, .string ⟨dl.toArray⟩]] W fun e w' => e = .returned (.tuple #[.string S, .int .i64 0]) ∧ Below W.heap.size W w'))
    (G : Hid (∀ W, Calls Try.prog 11 #[.string S] W (PkPost ((z, y, [], dl), 0) W)))
    (P3 : Hid (∀ W, Calls Try.prog 9 #[.agg #[.int .i64 (256 + z), .int .i64 1, .slice none 0 0, .string ⟨#[]⟩]] W fun e w' => e = .returned (.tuple #[.string ⟨#[]⟩, .int .i64 501]) ∧ Below W.heap.size W w'))
    (P4 : Hid (∀ W, Calls Try.prog 9 #[.agg #[.int .i64 9, .int .i64 (-1 - y), .slice none 0 0, .string ⟨#[]⟩]] W fun e w' => e = .returned (.tuple #[.string ⟨#[]⟩, .int .i64 501]) ∧ Below W.heap.size W w'))
    (SM : Hid (∀ W va vb, ReadsO W va [] → ReadsO W vb [] → Calls Try.prog 14 #[.agg #[.int .i64 z, .int .i64 y, va, .string ⟨dl.toArray⟩], .agg #[.int .i64 z, .int .i64 y, vb, .string ⟨dl.toArray⟩]] W fun e w' => e = .returned (.bool true) ∧ Below W.heap.size W w')) :
    Calls Try.prog 7 #[.int .i64 code, .int .i64 id, .string s] w fun e w' => e = .returned (.bool true) ∧ Below w.heap.size w w' := by
  go_enter Try.func7, Try.ntmps7
  go_wp2_with fail
  refine (A.out _).mono ?_
  rintro e w1 ⟨rfl, hb1⟩
  have B1 := Lib.hid hb1
  clear hb1
  have R0 := Lib.hid (reads_nil (w1.alloc (.cells #[.int .i64 z, .int .i64 y, .slice none 0 0, .string ⟨dl.toArray⟩] 24)))
  have X0 := Lib.hid (Box.new w1 [.int .i64 z, .int .i64 y, .slice none 0 0, .string ⟨dl.toArray⟩] 24)
  have B0 := Lib.hid (B1.out.alloc B1.out.size (.cells #[.int .i64 z, .int .i64 y, .slice none 0 0, .string ⟨dl.toArray⟩] 24))
  go_wp2_with fail
  refine (P.out _).mono ?_
  rintro e w2 ⟨rfl, hb2⟩
  have R2 := Lib.hid (R0.out.below hb2)
  have X2 := Lib.hid (X0.out.below hb2)
  have B2 := Lib.hid (bel2 B0.out hb2)
  clear hb2
  go_wp2_with fail
  refine (G.out _).mono ?_
  rintro e w3 ⟨v, rfl, ho⟩
  obtain ⟨p, cap, rfl⟩ := ho.form2
  have Q3 := Lib.hid (ho.reads)
  have R3 := Lib.hid (R2.out.below ho.2)
  have X3 := Lib.hid (X2.out.below ho.2)
  have B3 := Lib.hid (bel2 B2.out ho.2)
  clear ho
  have Y3 := Lib.hid (Box.new w3 [.int .i64 z, .int .i64 y, .slice p 0 cap, .string ⟨dl.toArray⟩] 24)
  go_wp2_with fail
  refine (P3.out _).mono ?_
  rintro e w4 ⟨rfl, hb4⟩
  have H4 := Lib.hid (bel2 ((Below.refl w3.heap.size w3).alloc (Nat.le_refl _) _) hb4)
  have Y4 := Lib.hid (Y3.out.below hb4)
  clear hb4
  go_wp2_with fail
  refine (P4.out _).mono ?_
  rintro e w5 ⟨rfl, hb5⟩
  have H5 := Lib.hid (bel2 H4.out hb5)
  have Y5 := Y4.out.below hb5
  have X5 := X3.out.below H5.out
  have B5 := Lib.hid (bel2 B3.out H5.out)
  have Q5 := Lib.hid (Q3.out.below H5.out)
  have R5 := Lib.hid (R3.out.below H5.out)
  have k0 := X5 0 _ rfl
  have k1 := X5 1 _ rfl
  have k2 := X5 2 _ rfl
  have k3 := X5 3 _ rfl
  have m0 := Y5 0 _ rfl
  have m1 := Y5 1 _ rfl
  have m2 := Y5 2 _ rfl
  have m3 := Y5 3 _ rfl
  clear hb5 X5 Y5
  go_wp2_with (first | (go_at_call 13; refine (num_any _ _).mono ?_; rintro e w9 ⟨rfl, rfl⟩) | (refine (SM.out _ _ _ Q5.out R5.out).mono ?_; rintro e w6 ⟨rfl, hb6⟩; have B6 := Lib.hid (bel2 B5.out hb6); clear hb6))
  go_ret
  exact ⟨rfl, B6.out⟩
theorem walk_codes (code id : Int) (s : ByteArray) (w : World) (_ : (Lit.int .i64 code).wf = true) (_ : (Lit.int .i64 id).wf = true) (hs : s.size ≤ maxLen) :
    Calls Try.prog 7 #[.int .i64 code, .int .i64 id, .string s] w fun e w' => e = .returned (.bool true) ∧ Below w.heap.size w w' := by
  have a1 := i64_and255 code
  have a2 := i64_and255 id
  obtain ⟨z, hz⟩ : ∃ z, z = code % 256 := ⟨_, rfl⟩
  obtain ⟨y, hy⟩ : ∃ y, y = id % 256 := ⟨_, rfl⟩
  rw [← hz] at a1
  rw [← hy] at a2
  have z1 : 0 ≤ z := by omega
  have z2 : z ≤ 255 := by omega
  have y1 : 0 ≤ y := by omega
  have y2 : y ≤ 255 := by omega
  have bz := byte_yes z z1 z2
  have bY := byte_yes y y1 y2
  have hsm : s.size ≤ 9223372036854775807 := by unfold maxLen at hs; omega
  have A := Lib.hid fun W => awake_any W
  have P3 := Lib.hid fun W => put_out (256 + z) 1 (.inl (byte_no _ (by omega))) W
  have P4 := Lib.hid fun W => put_out 9 (-1 - y) (.inr (byte_no _ (by omega))) W
  have main : ∀ dl : List UInt8, dl.length ≤ 100 → (Ctl.conf z = true →
      Hid (∀ W v, ReadsO W v [(3, dl)] → Calls Try.prog 9 #[.agg #[.int .i64 z, .int .i64 y, v, .string ⟨#[]⟩]] W fun e w' => e = .returned (.tuple #[.string ⟨(Ctl.put (z, y, [(3, dl)], [])).toArray⟩, .int .i64 0]) ∧ Below W.heap.size W w') ∧
      Hid (∀ W, Calls Try.prog 11 #[.string ⟨(Ctl.put (z, y, [(3, dl)], [])).toArray⟩] W (PkPost ((z, y, [(3, dl)], []), 0) W)) ∧
      Hid (∀ W va vb, ReadsO W va [(3, dl)] → ReadsO W vb [(3, dl)] → Calls Try.prog 14 #[.agg #[.int .i64 z, .int .i64 y, va, .string ⟨#[]⟩], .agg #[.int .i64 z, .int .i64 y, vb, .string ⟨#[]⟩]] W fun e w' => e = .returned (.bool true) ∧ Below W.heap.size W w')) ∧
      (Ctl.conf z = false →
      Hid (∀ W, Calls Try.prog 9 #[.agg #[.int .i64 z, .int .i64 y, .slice none 0 0, .string ⟨dl.toArray⟩]] W fun e w' => e = .returned (.tuple #[.string ⟨(Ctl.put (z, y, [], dl)).toArray⟩, .int .i64 0]) ∧ Below W.heap.size W w') ∧
      Hid (∀ W, Calls Try.prog 11 #[.string ⟨(Ctl.put (z, y, [], dl)).toArray⟩] W (PkPost ((z, y, [], dl), 0) W)) ∧
      Hid (∀ W va vb, ReadsO W va [] → ReadsO W vb [] → Calls Try.prog 14 #[.agg #[.int .i64 z, .int .i64 y, va, .string ⟨dl.toArray⟩], .agg #[.int .i64 z, .int .i64 y, vb, .string ⟨dl.toArray⟩]] W fun e w' => e = .returned (.bool true) ∧ Below W.heap.size W w')) := by
    intro dl hdl
    constructor
    · intro hc
      obtain ⟨o1, o2⟩ := opt_one 3 dl (by omega) (by omega)
      have e := code_conf z y [(3, dl)] bz bY hc o1 (by omega)
      refine ⟨Lib.hid fun W v hr => ?_, Lib.hid fun W => get_back _ e W, Lib.hid fun W va vb ha hb => samep_any z y va vb _ _ W ha hb (by simp)⟩
      have h := cput_any z y v [(3, dl)] [] W hr (by simp) (by simp)
      rwa [e] at h
    · intro hc
      have e := code_data z y dl bz bY hc (by omega)
      refine ⟨Lib.hid fun W => ?_, Lib.hid fun W => get_back _ e W, Lib.hid fun W va vb ha hb => samep_any z y va vb _ _ W ha hb (by simp)⟩
      have h := cput_any z y _ [] dl W (reads_nil W) (by simp) (by omega)
      rwa [e] at h
  clear hz hy
  by_cases hlen : 100 < s.size
  · obtain ⟨dl, hcut, hdl⟩ := cut_hundred s hlen
    obtain ⟨m1, m2⟩ := main dl (by omega)
    by_cases h1 : z < 1
    · obtain ⟨P, G, SM⟩ := m2 (conf_no z (.inl h1))
      exact codes_l0 code id z y dl _ w s hlen hsm hcut a1 a2 z1 z2 y1 y2 h1 A P G P3 P4 SM
    · by_cases h2 : 4 < z
      · obtain ⟨P, G, SM⟩ := m2 (conf_no z (.inr h2))
        exact codes_l5 code id z y dl _ w s hlen hsm hcut a1 a2 z1 z2 y1 y2 (by omega) h2 A P G P3 P4 SM
      · obtain ⟨P, G, SM⟩ := m1 (conf_yes z (by omega) (by omega))
        exact codes_l1 code id z y dl _ w s hlen hsm hcut a1 a2 z1 z2 y1 y2 (by omega) (by omega) A P G P3 P4 SM
  · obtain ⟨dl, rfl⟩ : ∃ dl : List UInt8, s = ⟨dl.toArray⟩ := ⟨s.data.toList, by simp⟩
    rw [sz] at hlen
    obtain ⟨m1, m2⟩ := main dl (by omega)
    by_cases h1 : z < 1
    · obtain ⟨P, G, SM⟩ := m2 (conf_no z (.inl h1))
      exact codes_s0 code id z y dl _ w (by omega) a1 a2 z1 z2 y1 y2 h1 A P G P3 P4 SM
    · by_cases h2 : 4 < z
      · obtain ⟨P, G, SM⟩ := m2 (conf_no z (.inr h2))
        exact codes_s5 code id z y dl _ w (by omega) a1 a2 z1 z2 y1 y2 (by omega) h2 A P G P3 P4 SM
      · obtain ⟨P, G, SM⟩ := m1 (conf_yes z (by omega) (by omega))
        exact codes_s1 code id z y dl _ w (by omega) a1 a2 z1 z2 y1 y2 (by omega) (by omega) A P G P3 P4 SM
end Go.Proofs.Ytoodhbdgnfmofaa.C
