/-
  The walk of the law of one bit turned.
-/
import Derived.Test.YtnkkompmdngkgaaR9
import Derived.Test.YtnkkompmdngkgaaTurn
import Derived.Test.YtnkkompmdngkgaaFlips
import Derived.Deep.DeepCutAuto
namespace Go.Proofs.Ytnkkompmdngkgaa.R
open Go.RowKit
set_option maxHeartbeats 1600000 in
theorem turned_long (z bit : Int) (a n : Nat) (s : ByteArray) (w : World) (hs : s.size ≤ 9223372036854775807) (h : 1000 < s.size)
    (hA : bits BinOp.and .i64 z 65278 = (a : Int)) (hB : bits BinOp.or .i64 (a : Int) 1 = (n : Int)) :
    Calls Try.prog 6 #[.agg #[.int .i64 z, .string s], .int .i64 bit] w fun e w' => e = .returned (.bool true) ∧ Below w.heap.size w w' := by
  go_enter Try.func6, Try.ntmps6
  go_wp2_with fail
  refine (awake_any _).mono ?_
  rintro e w0 ⟨rfl, hb0⟩
  obtain ⟨k0, k1, hz, hbl⟩ := box_kept (w := w) (x := .int .i64 z) (y := .string s) ⟨by simp, by simp, by simp, (Below.refl _ _).alloc (Nat.le_refl _) _⟩ hb0
  have B0 := Lib.hid hbl
  clear hb0 hbl
  go_wp2_with fail
  go_ret
  exact ⟨rfl, B0.out.alloc (Nat.le_of_lt hz) _⟩
def mark (c c' p : UInt8) (j : Nat) : Bool := c == 125 || c == 126 || c' == 125 || c' == 126 || (decide (0 < j) && p == 125)
set_option maxRecDepth 100000 in
set_option maxHeartbeats 6400000 in
theorem turned_walk (z bit : Int) (a n x : Nat) (s U : ByteArray) (Y : List UInt8) (c c' p : UInt8) (w : World) (h : s.size ≤ 1000)
    (hA : bits BinOp.and .i64 z 65278 = (a : Int)) (hB : bits BinOp.or .i64 (a : Int) 1 = (n : Int))
    (h4 : 4 ≤ U.size) (h5 : U.size ≤ 5000) (hY : U.extract 1 (U.size - 1) = ⟨Y.toArray⟩) (hl : Y.length ≤ 5000) (hl2 : 1 ≤ Y.length)
    (hx : wrap64 ((IntKind.u64.wrap bit).tmod (8 * (Y.length : Int))) = (x : Int)) (hx2 : x < 8 * Y.length)
    (hc : Hid (Y.getD (x / 8) 0 = c)) (hp : Hid (0 < x / 8 → Y.getD (x / 8 - 1) 0 = p)) (hc' : bits BinOp.xor .u8 (c.toNat : Int) (2 ^ (x % 8) % 256) = (c'.toNat : Int))
    (zz hh : Int) (D : ByteArray) (hbad : Hid (mark c c' p (x / 8) = false → hh = 301))
    (P : Hid (∀ w, Calls Try.prog 10 #[.agg #[.int .i64 n, .string s], .int .i64 0] w fun e w' => e = .returned (.tuple #[.string U, .int .i64 0]) ∧ Below w.heap.size w w'))
    (G : Hid (∀ w, Calls Try.prog 16 #[.string ⟨(Y.set (x / 8) c').toArray⟩] w fun e w' => e = .returned (.tuple #[.agg #[.int .i64 zz, .string D], .int .i64 hh]) ∧ Below w.heap.size w w')) :
    Calls Try.prog 6 #[.agg #[.int .i64 z, .string s], .int .i64 bit] w fun e w' => e = .returned (.bool true) ∧ Below w.heap.size w w' := by
  have HX := Lib.hid hx
  have i1 : (1 : Int) ≤ (U.size : Int) - 1 := by omega
  have i2 : 1 ≤ U.size - 1 := by omega
  go_enter Try.func6, Try.ntmps6
  go_wp2_with fail
  refine (awake_any _).mono ?_
  rintro e w0 ⟨rfl, hb0⟩
  obtain ⟨k0, k1, hz, hbl⟩ := box_kept (w := w) (x := .int .i64 z) (y := .string s) ⟨by simp, by simp, by simp, (Below.refl _ _).alloc (Nat.le_refl _) _⟩ hb0
  have B0 := Lib.hid hbl
  clear hb0 hbl
  go_wp2_with fail
  refine (P.out _).mono ?_
  rintro e w1 ⟨rfl, hb1⟩
  have B1 := Lib.hid (B0.out.trans (((Below.refl w0.heap.size w0).alloc (Nat.le_refl _) _ |>.trans (hb1.mono (by simp))).mono (Nat.le_of_lt hz)))
  clear hb1 k0 k1 hz
  obtain ⟨cap, W0, hbs, hb3, hho, hlt0⟩ := bytes_open w1 Y
  have HO := Lib.hid hho
  have B2 := Lib.hid (bel2 B1.out hb3)
  clear hho hb3
  obtain ⟨hc8, hf8⟩ := HO.out (x / 8) (by omega)
  rw [hc.out] at hc8
  have hx8 : x / 8 < Y.length := by omega
  have hv := c.toNat_lt
  go_upto_region 14 with (go_at_call 12; refine (num_any _ _).mono ?_; rintro e w9 ⟨rfl, rfl⟩)
  go_cut [9, 11] (fun k t wx => k = .int .i64 (x : Int) ∧ t = .bool (mark c c' p (x / 8)) ∧ W0.setCell ⟨w1.heap.size, x / 8, none⟩ (.int .u8 (c'.toNat : Int)) = wx)
  case first =>
    clear P G hbad hA hB hc
    by_cases c1 : c = 125
    · have q1 : ((c.toNat : Int) == 125) = true := byte_eq _ 125 c1
      have HM : Hid (mark c c' p (x / 8) = true) := Lib.hid (by unfold mark; simp [c1])
      clear c1
      go_wp2_with fail
      go_meet
      case rel => exact ⟨by first | rfl | rw [HX.out], ret0 HM.out.symm, rfl⟩
    · have q1 : ((c.toNat : Int) == 125) = false := byte_ne _ 125 c1
      by_cases c2 : c = 126
      · have q2 : ((c.toNat : Int) == 126) = true := byte_eq _ 126 c2
        have HM : Hid (mark c c' p (x / 8) = true) := Lib.hid (by unfold mark; simp [c2])
        clear c1 c2
        go_wp2_with fail
        go_meet
        case rel => exact ⟨by first | rfl | rw [HX.out], ret0 HM.out.symm, rfl⟩
      · have q2 : ((c.toNat : Int) == 126) = false := byte_ne _ 126 c2
        by_cases c3 : c' = 125
        · have q3 : ((c'.toNat : Int) == 125) = true := byte_eq _ 125 c3
          have HM : Hid (mark c c' p (x / 8) = true) := Lib.hid (by unfold mark; simp [c3])
          clear c1 c2 c3
          go_wp2_with fail
          go_meet
          case rel => exact ⟨by first | rfl | rw [HX.out], ret0 HM.out.symm, rfl⟩
        · have q3 : ((c'.toNat : Int) == 125) = false := byte_ne _ 125 c3
          by_cases c4 : c' = 126
          · have q4 : ((c'.toNat : Int) == 126) = true := byte_eq _ 126 c4
            have HM : Hid (mark c c' p (x / 8) = true) := Lib.hid (by unfold mark; simp [c4])
            clear c1 c2 c3 c4
            go_wp2_with fail
            go_meet
            case rel => exact ⟨by first | rfl | rw [HX.out], ret0 HM.out.symm, rfl⟩
          · have q4 : ((c'.toNat : Int) == 126) = false := byte_ne _ 126 c4
            by_cases c5 : 0 < x / 8
            · obtain ⟨hc9, hf9⟩ := HO.out (x / 8 - 1) (by omega)
              rw [hp.out c5] at hc9
              have hne : ¬ (x / 8 = x / 8 - 1) := by omega
              have hge : (1 : Int) ≤ (x : Int) / 8 := by omega
              have hpv := p.toNat_lt
              by_cases c6 : p = 125
              · have q5 : ((p.toNat : Int) == 125) = true := byte_eq _ 125 c6
                have HM : Hid (mark c c' p (x / 8) = true) := Lib.hid (by unfold mark; simp only [c6, c5]; simp)
                clear c1 c2 c3 c4 c6
                go_wp2_with fail
                go_meet
                case rel => exact ⟨by first | rfl | rw [HX.out], ret0 HM.out.symm, rfl⟩
              · have q5 : ((p.toNat : Int) == 125) = false := byte_ne _ 125 c6
                have HM : Hid (mark c c' p (x / 8) = false) := Lib.hid (by unfold mark; simp [c1, c2, c3, c4, c6])
                clear c1 c2 c3 c4 c6
                go_wp2_with fail
                go_meet
                case rel => exact ⟨by first | rfl | rw [HX.out], ret0 HM.out.symm, rfl⟩
            · have hle : (x : Int) / 8 ≤ 0 := by omega
              have HM : Hid (mark c c' p (x / 8) = false) := Lib.hid (by unfold mark; simp [c1, c2, c3, c4, c5])
              clear c1 c2 c3 c4 c5
              go_wp2_with fail
              go_meet
              case rel => exact ⟨by first | rfl | rw [HX.out], ret0 HM.out.symm, rfl⟩
  case rest =>
    obtain ⟨rfl, rfl, rfl⟩ := hcut
    have HS := HO.out.set (x / 8) hx8 c'
    have hcv := HS.back cap
    rw [List.length_set] at hcv
    have B3 := Lib.hid (B2.out.setCell (p := ⟨w1.heap.size, x / 8, none⟩) B1.out.size (.int .u8 (c'.toNat : Int)))
    clear hc8 hf8 HS hbs HO
    generalize W0.setCell ⟨w1.heap.size, x / 8, none⟩ (.int .u8 (c'.toNat : Int)) = W2 at *
    cases hm : mark c c' p (x / 8)
    · obtain rfl := hbad.out hm
      clear hbad hm
      go_wp2_with fail
      refine (G.out _).mono ?_
      rintro e w4 ⟨rfl, hb4⟩
      have B4 := Lib.hid (bel2 B3.out hb4)
      clear hb4
      go_wp2_with (go_at_call 12; refine (num_any _ _).mono ?_; rintro e w9 ⟨rfl, rfl⟩)
      go_ret
      exact ⟨rfl, B4.out.alloc B4.out.size _⟩
    · clear hbad hm
      go_wp2_with fail
      refine (G.out _).mono ?_
      rintro e w4 ⟨rfl, hb4⟩
      have B4 := Lib.hid (bel2 B3.out hb4)
      clear hb4
      go_wp2_with fail
      go_ret
      exact ⟨rfl, B4.out.alloc B4.out.size _⟩
theorem i64_and65278 (n : Int) (q : Nat) (hq : n % 65536 = (q : Int)) : bits BinOp.and IntKind.i64 n 65278 = ((q &&& 65278 : Nat) : Int) := by
  have e : (BitVec.ofInt 64 (65278 : Int)).toNat = 65278 := ofInt_i64 65278 (by omega)
  show IntKind.i64.wrap ((BitVec.ofInt 64 n &&& BitVec.ofInt 64 65278).toNat : Int) = _
  have e2 : (BitVec.ofInt 64 n).toNat &&& 65278 = q &&& 65278 := by
    have e3 : (65278 : Nat) = 65535 &&& 65278 := by decide
    rw [e3, ← Nat.and_assoc, ← Nat.and_assoc, show (65535 : Nat) = 2 ^ 16 - 1 from rfl, Nat.and_two_pow_sub_one_eq_mod, Nat.and_two_pow_sub_one_eq_mod]
    congr 1
    rw [BitVec.toNat_ofInt]
    omega
  have hlt : q &&& 65278 < 2 ^ 63 := Nat.and_lt_two_pow _ (by omega)
  rw [BitVec.toNat_and, e, e2, i64_wrap _ (by omega)]
/-- A protocol made of any number. -/
theorem proto_of (z : Int) : ∃ a n : Nat, bits BinOp.and .i64 z 65278 = (a : Int) ∧ bits BinOp.or .i64 (a : Int) 1 = (n : Int) ∧ Frm.good (n : Int) = true := by
  obtain ⟨q, hq⟩ : ∃ q : Nat, z % 65536 = (q : Int) := ⟨(z % 65536).toNat, by omega⟩
  have ha : q &&& 65278 < 2 ^ 16 := Nat.and_lt_two_pow _ (by omega)
  have hn : (q &&& 65278) ||| 1 < 2 ^ 16 := Nat.or_lt_two_pow ha (by omega)
  refine ⟨q &&& 65278, (q &&& 65278) ||| 1, i64_and65278 z q hq, i64_or_nat _ 1 (by omega) (by omega), ?_⟩
  have h1 : ((q &&& 65278) ||| 1) &&& 257 = 1 := by
    rw [Nat.and_or_distrib_right, Nat.and_assoc, show (65278 : Nat) &&& 257 = 0 from by decide, Nat.and_zero]
    decide
  have h2 := (Frm.and257 _).1 h1
  rw [Frm.good_iff]
  omega
theorem walk_turned (z : Int) (s : ByteArray) (bit : Int) (w : World) (_wz : (Lit.int .i64 z).wf = true) (hs : s.size ≤ maxLen) (_wb : (Lit.int .i64 bit).wf = true) :
    Calls Try.prog 6 #[.agg #[.int .i64 z, .string s], .int .i64 bit] w fun e w' => e = .returned (.bool true) ∧ Below w.heap.size w w' := by
  obtain ⟨a, n, hA, hB, hg⟩ := proto_of z
  obtain ⟨l, rfl⟩ : ∃ l : List UInt8, s = ⟨l.toArray⟩ := ⟨s.data.toList, by simp⟩
  by_cases h : 1000 < (ByteArray.mk l.toArray).size
  · exact turned_long z bit a n _ w (by unfold maxLen at hs; omega) h hA hB
  · have hl : l.length ≤ 1000 := by rw [sz] at h; omega
    have hw := Frm.wire_length 0 n l
    have hb := Frm.body_length n l
    obtain ⟨x, hx, hx2⟩ := pick_bit bit (Frm.wire 0 n l).length (by omega) (by omega)
    obtain ⟨i1, i2⟩ := inner (Frm.wire 0 n l)
    have P := fun w => fput_any n l 0 w (by unfold maxLen; omega)
    rw [Frm.put_good _ _ _ (Frm.code_good _ _ hg (by omega))] at P
    have hset : Crc.flip (Frm.wire 0 n l) x = (Frm.wire 0 n l).set (x / 8) ((Frm.wire 0 n l).getD (x / 8) 0 ^^^ UInt8.ofNat (2 ^ (x % 8))) := rfl
    have G := fun w => fget_any (Crc.flip (Frm.wire 0 n l) x) w (by rw [Crc.flip_length]; omega)
    have hbad : mark ((Frm.wire 0 n l).getD (x / 8) 0) ((Frm.wire 0 n l).getD (x / 8) 0 ^^^ UInt8.ofNat (2 ^ (x % 8))) ((Frm.wire 0 n l).getD (x / 8 - 1) 0) (x / 8) = false → (Frm.get (Crc.flip (Frm.wire 0 n l) x)).2 = 301 := by
      intro hm
      unfold mark at hm
      simp only [Bool.or_eq_false_iff, Bool.and_eq_false_iff, beq_eq_false_iff_ne, decide_eq_false_iff_not] at hm
      obtain ⟨⟨⟨⟨m1, m2⟩, m3⟩, m4⟩, m5⟩ := hm
      have := Frm.get_turned (Frm.body n l) x (by omega) (by omega) hx2 m1 m2 m3 m4 (fun hp => m5.elim (fun e => absurd hp e) id)
      exact congrArg (·.2) this
    rw [hset] at G hbad
    exact turned_walk z bit a n x _ _ (Frm.wire 0 n l) _ _ _ w (by rw [sz]; exact hl) hA hB (by rw [i2]; omega) (by rw [i2]; omega) i1 (by omega) (by omega) hx hx2 (Lib.hid rfl) (Lib.hid fun _ => rfl) (flip_int _ _) _ _ _ (Lib.hid hbad) (Lib.hid P) (Lib.hid G)
end Go.Proofs.Ytnkkompmdngkgaa.R
