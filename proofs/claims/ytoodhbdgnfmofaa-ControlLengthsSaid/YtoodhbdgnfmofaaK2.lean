/-
  The walk of the law of lengths that are wrong.
-/
import Derived.Test.YtoodhbdgnfmofaaCA
import Derived.Deep.RegionHeld
namespace Go.Proofs.Ytoodhbdgnfmofaa.C
open Go.RowKit
theorem i64_and63 (n : Int) : bits BinOp.and IntKind.i64 n 63 = n % 64 := by
  have e : (BitVec.ofInt 64 (63 : Int)).toNat = 63 := ofInt_i64 63 (by omega)
  show IntKind.i64.wrap ((BitVec.ofInt 64 n &&& BitVec.ofInt 64 63).toNat : Int) = _
  rw [BitVec.toNat_and, e, show (63 : Nat) = 2 ^ 6 - 1 from rfl, Nat.and_two_pow_sub_one_eq_mod, BitVec.toNat_ofInt, i64_wrap _ (by omega)]
  omega
set_option maxHeartbeats 1600000 in
theorem lengths_s0 (code length z y : Int) (dl H U : List UInt8) (w : World) (hs : dl.length ≤ 200) (a1 : bits .and .i64 code 63 = z) (a2 : bits .and .i64 length 255 = y) (z1 : 0 ≤ z) (z2 : z ≤ 63) (y1 : 0 ≤ y) (y2 : y ≤ 255) (g1 : y < 4)
    (CV : ∀ W : World, (convert 41 9 (.slice (some ⟨W.heap.size, 0, none⟩) 4 4)).run Try.prog (W.alloc (.cells #[.int .u8 (5 + z), .int .u8 9, .int .u8 0, .int .u8 y] 5)) = .ok (.string ⟨H.toArray⟩) (W.alloc (.cells #[.int .u8 (5 + z), .int .u8 9, .int .u8 0, .int .u8 y] 5)))
    (r1 : O.Sums H dl U)
    (A : Hid (∀ W, Calls Try.prog 17 #[] W fun e w' => e = .returned (.bool true) ∧ Below W.heap.size W w'))
    (G : Hid (∀ W, Calls Try.prog 11 #[.string ⟨U.toArray⟩] W (PkPost (Ctl.zero, 501) W)))
    (SM : Hid (∀ W va, ReadsO W va [] → Calls Try.prog 14 #[.agg #[.int .i64 0, .int .i64 0, va, .string ⟨#[]⟩], .agg #[.int .i64 0, .int .i64 0, .slice none 0 0, .string ⟨#[]⟩]] W fun e w' => e = .returned (.bool true) ∧ Below W.heap.size W w')) :
    Calls Try.prog 5 #[.int .i64 code, .int .i64 length, .string ⟨dl.toArray⟩] w fun e w' => e = .returned (.bool true) ∧ Below w.heap.size w w' := by
  unfold O.Sums at r1
  have CVH := Lib.hid CV
  clear CV
  go_enter Try.func5, Try.ntmps5
  go_wp2_with fail
  refine (A.out _).mono ?_
  rintro e w1 ⟨rfl, hb1⟩
  have B1 := Lib.hid hb1
  clear hb1
  have CV := CVH.out w1
  go_wp2_with fail
  refine (G.out _).mono ?_
  rintro e w2 ⟨v, rfl, ho⟩
  obtain ⟨p, cap, rfl⟩ := ho.form2
  have B2 := Lib.hid (bel2 (B1.out.alloc B1.out.size _) ho.2)
  have Q2 := Lib.hid (ho.reads.below ((Below.refl w2.heap.size w2).alloc (Nat.le_refl _) (.cells #[.int .i64 0, .int .i64 0, .slice p 0 cap, .string ⟨#[]⟩] 24)))
  clear ho CV
  go_wp2_with (first | (go_at_call 13; refine (num_any _ _).mono ?_; rintro e w9 ⟨rfl, rfl⟩) | (refine (SM.out _ _ Q2.out).mono ?_; rintro e w6 ⟨rfl, hb6⟩; have B6 := Lib.hid (bel2 (B2.out.alloc B2.out.size _) hb6); clear hb6))
  go_ret
  exact ⟨rfl, B6.out⟩
set_option maxHeartbeats 1600000 in
theorem lengths_sg (code length z y : Int) (dl H U : List UInt8) (w : World) (hs : dl.length ≤ 200) (a1 : bits .and .i64 code 63 = z) (a2 : bits .and .i64 length 255 = y) (z1 : 0 ≤ z) (z2 : z ≤ 63) (y1 : 0 ≤ y) (y2 : y ≤ 255) (m : Nat) (D : List UInt8) (g1 : 4 ≤ y) (g2 : y ≤ (dl.length : Int) + 4) (e1 : IntKind.i64.wrap (y - 4) = (m : Int)) (hm : m ≤ dl.length) (hD : (ByteArray.mk dl.toArray).extract 0 m = ⟨D.toArray⟩)
    (CV : ∀ W : World, (convert 41 9 (.slice (some ⟨W.heap.size, 0, none⟩) 4 4)).run Try.prog (W.alloc (.cells #[.int .u8 (5 + z), .int .u8 9, .int .u8 0, .int .u8 y] 5)) = .ok (.string ⟨H.toArray⟩) (W.alloc (.cells #[.int .u8 (5 + z), .int .u8 9, .int .u8 0, .int .u8 y] 5)))
    (r1 : O.Sums H dl U)
    (A : Hid (∀ W, Calls Try.prog 17 #[] W fun e w' => e = .returned (.bool true) ∧ Below W.heap.size W w'))
    (G : Hid (∀ W, Calls Try.prog 11 #[.string ⟨U.toArray⟩] W (PkPost ((5 + z, 9, [], D), 0) W)))
    (SM : Hid (∀ W va, ReadsO W va [] → Calls Try.prog 14 #[.agg #[.int .i64 (5 + z), .int .i64 9, va, .string ⟨D.toArray⟩], .agg #[.int .i64 (5 + z), .int .i64 9, .slice none 0 0, .string ⟨D.toArray⟩]] W fun e w' => e = .returned (.bool true) ∧ Below W.heap.size W w')) :
    Calls Try.prog 5 #[.int .i64 code, .int .i64 length, .string ⟨dl.toArray⟩] w fun e w' => e = .returned (.bool true) ∧ Below w.heap.size w w' := by
  unfold O.Sums at r1
  have CVH := Lib.hid CV
  clear CV
  go_enter Try.func5, Try.ntmps5
  go_wp2_with fail
  refine (A.out _).mono ?_
  rintro e w1 ⟨rfl, hb1⟩
  have B1 := Lib.hid hb1
  clear hb1
  have CV := CVH.out w1
  go_wp2_with fail
  refine (G.out _).mono ?_
  rintro e w2 ⟨v, rfl, ho⟩
  obtain ⟨p, cap, rfl⟩ := ho.form2
  have B2 := Lib.hid (bel2 (B1.out.alloc B1.out.size _) ho.2)
  have Q2 := Lib.hid (ho.reads.below ((Below.refl w2.heap.size w2).alloc (Nat.le_refl _) (.cells #[.int .i64 (5 + z), .int .i64 9, .slice p 0 cap, .string ⟨D.toArray⟩] 24)))
  clear ho CV
  have K2 := Lib.hid (box4_of (w := w) (Box.new w2 [.int .i64 (5 + z), .int .i64 9, .slice p 0 cap, .string ⟨D.toArray⟩] 24) (B2.out.alloc B2.out.size _))
  have hm2 : (m : Int) ≤ (dl.length : Int) := by omega
  have Q3 := Lib.hid Q2.out.drew
  go_wp2_with fail
  go_region_held (fun a => a.cell? ⟨w2.heap.size, 0, none⟩ = some (.int .i64 (5 + z)) ∧ a.cell? ⟨w2.heap.size, 1, none⟩ = some (.int .i64 9) ∧ a.cell? ⟨w2.heap.size, 2, none⟩ = some (.slice p 0 cap) ∧ a.cell? ⟨w2.heap.size, 3, none⟩ = some (.string ⟨D.toArray⟩) ∧ w2.heap.size < a.heap.size ∧ Below w.heap.size w a) (first | assumption | exact box4_drew K2.out | exact box4_kept (by assumption) hb6)
    (first | (go_at_call 13; refine (num_any _ _).mono ?_; rintro e w9 ⟨rfl, rfl⟩) | (go_at_call 14; refine (SM.out _ _ Q3.out).mono ?_; rintro e w6 ⟨rfl, hb6⟩))
  all_goals
    rename_i hH
    have H9 := Lib.hid hH
    clear hH
    go_wp2_with fail
    go_ret
    exact ⟨rfl, H9.out.2.2.2.2.2⟩
set_option maxHeartbeats 1600000 in
theorem lengths_s9 (code length z y : Int) (dl H U : List UInt8) (w : World) (hs : dl.length ≤ 200) (a1 : bits .and .i64 code 63 = z) (a2 : bits .and .i64 length 255 = y) (z1 : 0 ≤ z) (z2 : z ≤ 63) (y1 : 0 ≤ y) (y2 : y ≤ 255) (g1 : 4 ≤ y) (g2 : (dl.length : Int) + 4 < y)
    (CV : ∀ W : World, (convert 41 9 (.slice (some ⟨W.heap.size, 0, none⟩) 4 4)).run Try.prog (W.alloc (.cells #[.int .u8 (5 + z), .int .u8 9, .int .u8 0, .int .u8 y] 5)) = .ok (.string ⟨H.toArray⟩) (W.alloc (.cells #[.int .u8 (5 + z), .int .u8 9, .int .u8 0, .int .u8 y] 5)))
    (r1 : O.Sums H dl U)
    (A : Hid (∀ W, Calls Try.prog 17 #[] W fun e w' => e = .returned (.bool true) ∧ Below W.heap.size W w'))
    (G : Hid (∀ W, Calls Try.prog 11 #[.string ⟨U.toArray⟩] W (PkPost (Ctl.zero, 501) W)))
    (SM : Hid (∀ W va, ReadsO W va [] → Calls Try.prog 14 #[.agg #[.int .i64 0, .int .i64 0, va, .string ⟨#[]⟩], .agg #[.int .i64 0, .int .i64 0, .slice none 0 0, .string ⟨#[]⟩]] W fun e w' => e = .returned (.bool true) ∧ Below W.heap.size W w')) :
    Calls Try.prog 5 #[.int .i64 code, .int .i64 length, .string ⟨dl.toArray⟩] w fun e w' => e = .returned (.bool true) ∧ Below w.heap.size w w' := by
  unfold O.Sums at r1
  have CVH := Lib.hid CV
  clear CV
  go_enter Try.func5, Try.ntmps5
  go_wp2_with fail
  refine (A.out _).mono ?_
  rintro e w1 ⟨rfl, hb1⟩
  have B1 := Lib.hid hb1
  clear hb1
  have CV := CVH.out w1
  go_wp2_with fail
  refine (G.out _).mono ?_
  rintro e w2 ⟨v, rfl, ho⟩
  obtain ⟨p, cap, rfl⟩ := ho.form2
  have B2 := Lib.hid (bel2 (B1.out.alloc B1.out.size _) ho.2)
  have Q2 := Lib.hid (ho.reads.below ((Below.refl w2.heap.size w2).alloc (Nat.le_refl _) (.cells #[.int .i64 0, .int .i64 0, .slice p 0 cap, .string ⟨#[]⟩] 24)))
  clear ho CV
  go_wp2_with (first | (go_at_call 13; refine (num_any _ _).mono ?_; rintro e w9 ⟨rfl, rfl⟩) | (refine (SM.out _ _ Q2.out).mono ?_; rintro e w6 ⟨rfl, hb6⟩; have B6 := Lib.hid (bel2 (B2.out.alloc B2.out.size _) hb6); clear hb6))
  go_ret
  exact ⟨rfl, B6.out⟩
set_option maxHeartbeats 1600000 in
theorem lengths_l0 (code length z y : Int) (dl H U : List UInt8) (w : World) (s : ByteArray) (hs : 200 < s.size) (hsm : s.size ≤ 9223372036854775807) (hcut : s.extract 0 200 = ⟨dl.toArray⟩) (_ : dl.length ≤ 200) (a1 : bits .and .i64 code 63 = z) (a2 : bits .and .i64 length 255 = y) (z1 : 0 ≤ z) (z2 : z ≤ 63) (y1 : 0 ≤ y) (y2 : y ≤ 255) (g1 : y < 4)
    (CV : ∀ W : World, (convert 41 9 (.slice (some ⟨W.heap.size, 0, none⟩) 4 4)).run Try.prog (W.alloc (.cells #[.int .u8 (5 + z), .int .u8 9, .int .u8 0, .int .u8 y] 5)) = .ok (.string ⟨H.toArray⟩) (W.alloc (.cells #[.int .u8 (5 + z), .int .u8 9, .int .u8 0, .int .u8 y] 5)))
    (r1 : O.Sums H dl U)
    (A : Hid (∀ W, Calls Try.prog 17 #[] W fun e w' => e = .returned (.bool true) ∧ Below W.heap.size W w'))
    (G : Hid (∀ W, Calls Try.prog 11 #[.string ⟨U.toArray⟩] W (PkPost (Ctl.zero, 501) W)))
    (SM : Hid (∀ W va, ReadsO W va [] → Calls Try.prog 14 #[.agg #[.int .i64 0, .int .i64 0, va, .string ⟨#[]⟩], .agg #[.int .i64 0, .int .i64 0, .slice none 0 0, .string ⟨#[]⟩]] W fun e w' => e = .returned (.bool true) ∧ Below W.heap.size W w')) :
    Calls Try.prog 5 #[.int .i64 code, .int .i64 length, .string s] w fun e w' => e = .returned (.bool true) ∧ Below w.heap.size w w' := by
  unfold O.Sums at r1
  have CVH := Lib.hid CV
  clear CV
  go_enter Try.func5, Try.ntmps5
  go_wp2_with fail
  refine (A.out _).mono ?_
  rintro e w1 ⟨rfl, hb1⟩
  have B1 := Lib.hid hb1
  clear hb1
  have CV := CVH.out w1
  go_wp2_with fail
  refine (G.out _).mono ?_
  rintro e w2 ⟨v, rfl, ho⟩
  obtain ⟨p, cap, rfl⟩ := ho.form2
  have B2 := Lib.hid (bel2 (B1.out.alloc B1.out.size _) ho.2)
  have Q2 := Lib.hid (ho.reads.below ((Below.refl w2.heap.size w2).alloc (Nat.le_refl _) (.cells #[.int .i64 0, .int .i64 0, .slice p 0 cap, .string ⟨#[]⟩] 24)))
  clear ho CV
  go_wp2_with (first | (go_at_call 13; refine (num_any _ _).mono ?_; rintro e w9 ⟨rfl, rfl⟩) | (refine (SM.out _ _ Q2.out).mono ?_; rintro e w6 ⟨rfl, hb6⟩; have B6 := Lib.hid (bel2 (B2.out.alloc B2.out.size _) hb6); clear hb6))
  go_ret
  exact ⟨rfl, B6.out⟩
set_option maxHeartbeats 1600000 in
theorem lengths_l9 (code length z y : Int) (dl H U : List UInt8) (w : World) (s : ByteArray) (hs : 200 < s.size) (hsm : s.size ≤ 9223372036854775807) (hcut : s.extract 0 200 = ⟨dl.toArray⟩) (hs2 : dl.length ≤ 200) (a1 : bits .and .i64 code 63 = z) (a2 : bits .and .i64 length 255 = y) (z1 : 0 ≤ z) (z2 : z ≤ 63) (y1 : 0 ≤ y) (y2 : y ≤ 255) (g1 : 4 ≤ y) (g2 : (dl.length : Int) + 4 < y)
    (CV : ∀ W : World, (convert 41 9 (.slice (some ⟨W.heap.size, 0, none⟩) 4 4)).run Try.prog (W.alloc (.cells #[.int .u8 (5 + z), .int .u8 9, .int .u8 0, .int .u8 y] 5)) = .ok (.string ⟨H.toArray⟩) (W.alloc (.cells #[.int .u8 (5 + z), .int .u8 9, .int .u8 0, .int .u8 y] 5)))
    (r1 : O.Sums H dl U)
    (A : Hid (∀ W, Calls Try.prog 17 #[] W fun e w' => e = .returned (.bool true) ∧ Below W.heap.size W w'))
    (G : Hid (∀ W, Calls Try.prog 11 #[.string ⟨U.toArray⟩] W (PkPost (Ctl.zero, 501) W)))
    (SM : Hid (∀ W va, ReadsO W va [] → Calls Try.prog 14 #[.agg #[.int .i64 0, .int .i64 0, va, .string ⟨#[]⟩], .agg #[.int .i64 0, .int .i64 0, .slice none 0 0, .string ⟨#[]⟩]] W fun e w' => e = .returned (.bool true) ∧ Below W.heap.size W w')) :
    Calls Try.prog 5 #[.int .i64 code, .int .i64 length, .string s] w fun e w' => e = .returned (.bool true) ∧ Below w.heap.size w w' := by
  unfold O.Sums at r1
  have CVH := Lib.hid CV
  clear CV
  go_enter Try.func5, Try.ntmps5
  go_wp2_with fail
  refine (A.out _).mono ?_
  rintro e w1 ⟨rfl, hb1⟩
  have B1 := Lib.hid hb1
  clear hb1
  have CV := CVH.out w1
  go_wp2_with fail
  refine (G.out _).mono ?_
  rintro e w2 ⟨v, rfl, ho⟩
  obtain ⟨p, cap, rfl⟩ := ho.form2
  have B2 := Lib.hid (bel2 (B1.out.alloc B1.out.size _) ho.2)
  have Q2 := Lib.hid (ho.reads.below ((Below.refl w2.heap.size w2).alloc (Nat.le_refl _) (.cells #[.int .i64 0, .int .i64 0, .slice p 0 cap, .string ⟨#[]⟩] 24)))
  clear ho CV
  go_wp2_with (first | (go_at_call 13; refine (num_any _ _).mono ?_; rintro e w9 ⟨rfl, rfl⟩) | (refine (SM.out _ _ Q2.out).mono ?_; rintro e w6 ⟨rfl, hb6⟩; have B6 := Lib.hid (bel2 (B2.out.alloc B2.out.size _) hb6); clear hb6))
  go_ret
  exact ⟨rfl, B6.out⟩
set_option maxHeartbeats 1600000 in
theorem lengths_lg (code length z y : Int) (dl H U : List UInt8) (w : World) (s : ByteArray) (hs : 200 < s.size) (hsm : s.size ≤ 9223372036854775807) (hcut : s.extract 0 200 = ⟨dl.toArray⟩) (hs2 : dl.length ≤ 200) (a1 : bits .and .i64 code 63 = z) (a2 : bits .and .i64 length 255 = y) (z1 : 0 ≤ z) (z2 : z ≤ 63) (y1 : 0 ≤ y) (y2 : y ≤ 255) (m : Nat) (D : List UInt8) (g1 : 4 ≤ y) (g2 : y ≤ (dl.length : Int) + 4) (e1 : IntKind.i64.wrap (y - 4) = (m : Int)) (hm : m ≤ dl.length) (hD : (ByteArray.mk dl.toArray).extract 0 m = ⟨D.toArray⟩)
    (CV : ∀ W : World, (convert 41 9 (.slice (some ⟨W.heap.size, 0, none⟩) 4 4)).run Try.prog (W.alloc (.cells #[.int .u8 (5 + z), .int .u8 9, .int .u8 0, .int .u8 y] 5)) = .ok (.string ⟨H.toArray⟩) (W.alloc (.cells #[.int .u8 (5 + z), .int .u8 9, .int .u8 0, .int .u8 y] 5)))
    (r1 : O.Sums H dl U)
    (A : Hid (∀ W, Calls Try.prog 17 #[] W fun e w' => e = .returned (.bool true) ∧ Below W.heap.size W w'))
    (G : Hid (∀ W, Calls Try.prog 11 #[.string ⟨U.toArray⟩] W (PkPost ((5 + z, 9, [], D), 0) W)))
    (SM : Hid (∀ W va, ReadsO W va [] → Calls Try.prog 14 #[.agg #[.int .i64 (5 + z), .int .i64 9, va, .string ⟨D.toArray⟩], .agg #[.int .i64 (5 + z), .int .i64 9, .slice none 0 0, .string ⟨D.toArray⟩]] W fun e w' => e = .returned (.bool true) ∧ Below W.heap.size W w')) :
    Calls Try.prog 5 #[.int .i64 code, .int .i64 length, .string s] w fun e w' => e = .returned (.bool true) ∧ Below w.heap.size w w' := by
  unfold O.Sums at r1
  have CVH := Lib.hid CV
  clear CV
  go_enter Try.func5, Try.ntmps5
  go_wp2_with fail
  refine (A.out _).mono ?_
  rintro e w1 ⟨rfl, hb1⟩
  have B1 := Lib.hid hb1
  clear hb1
  have CV := CVH.out w1
  go_wp2_with fail
  refine (G.out _).mono ?_
  rintro e w2 ⟨v, rfl, ho⟩
  obtain ⟨p, cap, rfl⟩ := ho.form2
  have B2 := Lib.hid (bel2 (B1.out.alloc B1.out.size _) ho.2)
  have Q2 := Lib.hid (ho.reads.below ((Below.refl w2.heap.size w2).alloc (Nat.le_refl _) (.cells #[.int .i64 (5 + z), .int .i64 9, .slice p 0 cap, .string ⟨D.toArray⟩] 24)))
  clear ho CV
  have K2 := Lib.hid (box4_of (w := w) (Box.new w2 [.int .i64 (5 + z), .int .i64 9, .slice p 0 cap, .string ⟨D.toArray⟩] 24) (B2.out.alloc B2.out.size _))
  have hm2 : (m : Int) ≤ (dl.length : Int) := by omega
  have Q3 := Lib.hid Q2.out.drew
  go_wp2_with fail
  go_region_held (fun a => a.cell? ⟨w2.heap.size, 0, none⟩ = some (.int .i64 (5 + z)) ∧ a.cell? ⟨w2.heap.size, 1, none⟩ = some (.int .i64 9) ∧ a.cell? ⟨w2.heap.size, 2, none⟩ = some (.slice p 0 cap) ∧ a.cell? ⟨w2.heap.size, 3, none⟩ = some (.string ⟨D.toArray⟩) ∧ w2.heap.size < a.heap.size ∧ Below w.heap.size w a) (first | assumption | exact box4_drew K2.out | exact box4_kept (by assumption) hb6)
    (first | (go_at_call 13; refine (num_any _ _).mono ?_; rintro e w9 ⟨rfl, rfl⟩) | (go_at_call 14; refine (SM.out _ _ Q3.out).mono ?_; rintro e w6 ⟨rfl, hb6⟩))
  all_goals
    rename_i hH
    have H9 := Lib.hid hH
    clear hH
    go_wp2_with fail
    go_ret
    exact ⟨rfl, H9.out.2.2.2.2.2⟩
theorem len_cells (z y : Int) (h1 : 0 ≤ z) (h2 : z ≤ 63) (h3 : 0 ≤ y) (h4 : y ≤ 255) : (#[Value.int .u8 (5 + z), .int .u8 9, .int .u8 0, .int .u8 y] : Array Value) = (Lib.byteCells [UInt8.ofNat (5 + z).toNat, 9, 0, UInt8.ofNat y.toNat]).toArray := by
  have e1 : ((UInt8.ofNat (5 + z).toNat).toNat : Int) = 5 + z := by simp; omega
  have e2 : ((UInt8.ofNat y.toNat).toNat : Int) = y := by simp; omega
  simp only [Lib.byteCells, List.map_cons, List.map_nil, e1, e2]
  rfl
theorem len_get (z y : Int) (dl : List UInt8) (h1 : 0 ≤ z) (h2 : z ≤ 63) (h3 : 0 ≤ y) (h4 : y ≤ 255) :
    (y < 4 ∨ (dl.length : Int) + 4 < y → Ctl.get ([UInt8.ofNat (5 + z).toNat, 9, 0, UInt8.ofNat y.toNat] ++ dl) = (Ctl.zero, 501)) ∧
    (4 ≤ y → y ≤ (dl.length : Int) + 4 → Ctl.get ([UInt8.ofNat (5 + z).toNat, 9, 0, UInt8.ofNat y.toNat] ++ dl) = ((5 + z, 9, [], dl.take (y.toNat - 4)), 0)) := by
  have e1 : ((UInt8.ofNat (5 + z).toNat).toNat : Int) = 5 + z := by simp; omega
  have e2 : (UInt8.ofNat y.toNat).toNat = y.toNat := by simp; omega
  have e3 : (0 : UInt8).toNat * 256 + (UInt8.ofNat y.toNat).toNat = y.toNat := by rw [e2]; simp
  have e4 : (((9 : UInt8).toNat : Nat) : Int) = 9 := rfl
  constructor
  · intro h
    show Ctl.get (_ :: _ :: _ :: _ :: dl) = _
    rw [Ctl.get_four, e3, if_pos (by omega)]
  · intro g1 g2
    show Ctl.get (_ :: _ :: _ :: _ :: dl) = _
    rw [Ctl.get_four, e3, if_neg (by omega), if_neg (by omega), Ctl.held_data _ _ _ (by rw [e1]; exact conf_no _ (by omega)), e1, e4]
theorem cut_at (s : ByteArray) (k : Nat) (h : k < s.size) : ∃ dl : List UInt8, s.extract 0 k = ⟨dl.toArray⟩ ∧ dl.length = k := by
  obtain ⟨l, rfl⟩ : ∃ l : List UInt8, s = ⟨l.toArray⟩ := ⟨s.data.toList, by simp⟩
  rw [sz] at h
  exact ⟨l.take k, O.cut_list l 0 k, by rw [List.length_take]; omega⟩
theorem walk_lengths (code length : Int) (s : ByteArray) (w : World) (_ : (Lit.int .i64 code).wf = true) (_ : (Lit.int .i64 length).wf = true) (hs : s.size ≤ maxLen) :
    Calls Try.prog 5 #[.int .i64 code, .int .i64 length, .string s] w fun e w' => e = .returned (.bool true) ∧ Below w.heap.size w w' := by
  have a1 := i64_and63 code
  have a2 := i64_and255 length
  obtain ⟨z, hz⟩ : ∃ z, z = code % 64 := ⟨_, rfl⟩
  obtain ⟨y, hy⟩ : ∃ y, y = length % 256 := ⟨_, rfl⟩
  rw [← hz] at a1
  rw [← hy] at a2
  have z1 : 0 ≤ z := by omega
  have z2 : z ≤ 63 := by omega
  have y1 : 0 ≤ y := by omega
  have y2 : y ≤ 255 := by omega
  have hsm : s.size ≤ 9223372036854775807 := by unfold maxLen at hs; omega
  have A := Lib.hid fun W => awake_any W
  obtain ⟨H, hH⟩ : ∃ H : List UInt8, H = [UInt8.ofNat (5 + z).toNat, 9, 0, UInt8.ofNat y.toNat] := ⟨_, rfl⟩
  have hHl : H.length = 4 := by rw [hH]; rfl
  have CV : ∀ W : World, (convert 41 9 (.slice (some ⟨W.heap.size, 0, none⟩) 4 4)).run Try.prog (W.alloc (.cells #[.int .u8 (5 + z), .int .u8 9, .int .u8 0, .int .u8 y] 5)) = .ok (.string ⟨H.toArray⟩) (W.alloc (.cells #[.int .u8 (5 + z), .int .u8 9, .int .u8 0, .int .u8 y] 5)) := fun W => by
    have h := conv_new W H _ (hH ▸ len_cells z y z1 z2 y1 y2)
    rwa [hHl] at h
  have main : ∀ dl : List UInt8, dl.length ≤ 200 → O.Sums H dl (H ++ dl) ∧
      (y < 4 ∨ (dl.length : Int) + 4 < y → Hid (∀ W, Calls Try.prog 11 #[.string ⟨(H ++ dl).toArray⟩] W (PkPost (Ctl.zero, 501) W))) ∧
      (4 ≤ y → y ≤ (dl.length : Int) + 4 → Hid (∀ W, Calls Try.prog 11 #[.string ⟨(H ++ dl).toArray⟩] W (PkPost ((5 + z, 9, [], dl.take (y.toNat - 4)), 0) W)) ∧ IntKind.i64.wrap (y - 4) = ((y.toNat - 4 : Nat) : Int) ∧ y.toNat - 4 ≤ dl.length ∧ (ByteArray.mk dl.toArray).extract 0 (y.toNat - 4) = ⟨(dl.take (y.toNat - 4)).toArray⟩ ∧
        Hid (∀ W va, ReadsO W va [] → Calls Try.prog 14 #[.agg #[.int .i64 (5 + z), .int .i64 9, va, .string ⟨(dl.take (y.toNat - 4)).toArray⟩], .agg #[.int .i64 (5 + z), .int .i64 9, .slice none 0 0, .string ⟨(dl.take (y.toNat - 4)).toArray⟩]] W fun e w' => e = .returned (.bool true) ∧ Below W.heap.size W w')) := by
    intro dl hdl
    obtain ⟨b1, b2⟩ := len_get z y dl z1 z2 y1 y2
    rw [← hH] at b1 b2
    have hm : (H ++ dl).length ≤ 9223372036854775807 := by rw [List.length_append]; omega
    refine ⟨O.sums _ _ (by omega), fun h => Lib.hid fun W => ?_, fun g1 g2 => ⟨Lib.hid fun W => ?_, ?_, by omega, O.cut_list dl 0 _, Lib.hid fun W va ha => samep_any _ _ va _ _ _ W ha (reads_nil W) (by simp)⟩⟩
    · have h1 := cget_any (H ++ dl) W hm
      rwa [b1 h] at h1
    · have h1 := cget_any (H ++ dl) W hm
      rwa [b2 g1 g2] at h1
    · rw [IntWalk.i64_in _ (by omega)]; omega
  have SZ : Hid (∀ W va, ReadsO W va [] → Calls Try.prog 14 #[.agg #[.int .i64 0, .int .i64 0, va, .string ⟨#[]⟩], .agg #[.int .i64 0, .int .i64 0, .slice none 0 0, .string ⟨#[]⟩]] W fun e w' => e = .returned (.bool true) ∧ Below W.heap.size W w') := Lib.hid fun W va ha => samep_any _ _ va _ _ _ W ha (reads_nil W) (by simp)
  clear hz hy hH
  by_cases hlen : 200 < s.size
  · obtain ⟨dl, hcut, hdl⟩ := cut_at s 200 hlen
    obtain ⟨r1, m1, m2⟩ := main dl (by omega)
    by_cases h1 : y < 4
    · exact lengths_l0 code length z y dl H _ w s hlen hsm hcut (by omega) a1 a2 z1 z2 y1 y2 h1 CV r1 A (m1 (.inl h1)) SZ
    · by_cases h2 : (dl.length : Int) + 4 < y
      · exact lengths_l9 code length z y dl H _ w s hlen hsm hcut (by omega) a1 a2 z1 z2 y1 y2 (by omega) h2 CV r1 A (m1 (.inr h2)) SZ
      · obtain ⟨G, e1, hm, hD, SM⟩ := m2 (by omega) (by omega)
        exact lengths_lg code length z y dl H _ w s hlen hsm hcut (by omega) a1 a2 z1 z2 y1 y2 _ _ (by omega) (by omega) e1 hm hD CV r1 A G SM
  · obtain ⟨dl, rfl⟩ : ∃ dl : List UInt8, s = ⟨dl.toArray⟩ := ⟨s.data.toList, by simp⟩
    rw [sz] at hlen
    obtain ⟨r1, m1, m2⟩ := main dl (by omega)
    by_cases h1 : y < 4
    · exact lengths_s0 code length z y dl H _ w (by omega) a1 a2 z1 z2 y1 y2 h1 CV r1 A (m1 (.inl h1)) SZ
    · by_cases h2 : (dl.length : Int) + 4 < y
      · exact lengths_s9 code length z y dl H _ w (by omega) a1 a2 z1 z2 y1 y2 (by omega) h2 CV r1 A (m1 (.inr h2)) SZ
      · obtain ⟨G, e1, hm, hD, SM⟩ := m2 (by omega) (by omega)
        exact lengths_sg code length z y dl H _ w (by omega) a1 a2 z1 z2 y1 y2 _ _ (by omega) (by omega) e1 hm hD CV r1 A G SM
end Go.Proofs.Ytoodhbdgnfmofaa.C
