/-
  The walk of the law which protocols there are.
-/
import Derived.Test.YtnkkompmdngkgaaR9
import Derived.Test.YtnkkompmdngkgaaBytes
import Derived.Deep.DeepCutAuto
namespace Go.Proofs.Ytnkkompmdngkgaa.R
open Go.RowKit
/-- A test of a protocol, in the law's own spelling. -/
theorem fine_ways (p : Int) : (p < 1 ∧ Frm.good p = false) ∨ (65535 < p ∧ Frm.good p = false) ∨
    (∃ n h : Nat, p = n ∧ 1 ≤ n ∧ n ≤ 65535 ∧ (n : Int) / 256 = (h : Int) ∧ h < 256 ∧ ((bits BinOp.and .i64 (n : Int) 1 = 0 ∧ Frm.good p = false) ∨ (bits BinOp.and .i64 (n : Int) 1 = 1 ∧ bits BinOp.and .i64 (h : Int) 1 = 0 ∧ Frm.good p = true) ∨ (bits BinOp.and .i64 (n : Int) 1 = 1 ∧ bits BinOp.and .i64 (h : Int) 1 = 1 ∧ Frm.good p = false))) := by
  by_cases h1 : p < 1
  · exact .inl ⟨h1, by unfold Frm.good; simp; omega⟩
  · by_cases h2 : 65535 < p
    · exact .inr (.inl ⟨h2, by unfold Frm.good; simp; omega⟩)
    · refine .inr (.inr ⟨p.toNat, p.toNat / 256, by omega, by omega, by omega, by omega, by omega, ?_⟩)
      have e : p = (p.toNat : Int) := by omega
      have a1 := in_and1 p.toNat (by omega)
      have a2 := in_and1 (p.toNat / 256) (by omega)
      rcases Nat.mod_two_eq_zero_or_one p.toNat with k1 | k1
      · rw [k1] at a1
        exact .inl ⟨a1, by unfold Frm.good; simp; omega⟩
      · rw [k1] at a1
        rcases Nat.mod_two_eq_zero_or_one (p.toNat / 256) with k2 | k2
        · rw [k2] at a2
          exact .inr (.inl ⟨a1, a2, by unfold Frm.good; simp; omega⟩)
        · rw [k2] at a2
          exact .inr (.inr ⟨a1, a2, by unfold Frm.good; simp; omega⟩)
theorem fine_nat (q h : Nat) (hq : q < 65536) (hh : (q : Int) / 256 = (h : Int)) : (bits BinOp.and .i64 (q : Int) 1 = 0 ∧ Frm.good (q : Int) = false) ∨ (1 ≤ q ∧ bits BinOp.and .i64 (q : Int) 1 = 1 ∧ bits BinOp.and .i64 (h : Int) 1 = 0 ∧ Frm.good (q : Int) = true) ∨ (bits BinOp.and .i64 (q : Int) 1 = 1 ∧ bits BinOp.and .i64 (h : Int) 1 = 1 ∧ Frm.good (q : Int) = false) := by
  have a1 := in_and1 q hq
  have a2 := in_and1 h (by omega)
  rcases Nat.mod_two_eq_zero_or_one q with k1 | k1
  · rw [k1] at a1
    exact .inl ⟨a1, by unfold Frm.good; simp; omega⟩
  · rw [k1] at a1
    rcases Nat.mod_two_eq_zero_or_one h with k2 | k2
    · rw [k2] at a2
      exact .inr (.inl ⟨by omega, a1, a2, by unfold Frm.good; simp; omega⟩)
    · rw [k2] at a2
      exact .inr (.inr ⟨a1, a2, by unfold Frm.good; simp; omega⟩)
set_option maxRecDepth 100000 in
set_option maxHeartbeats 6400000 in
theorem protos_tt (q h m : Nat) (s U : ByteArray) (d T A B X Y : List UInt8) (w : World) (hfine : Frm.good (q : Int) = true) (hok : Frm.good (q : Int) = true)
    (hs : s.size ≤ 9223372036854775807) (hd : (s.size ≤ 100 ∧ s = ⟨d.toArray⟩) ∨ (100 < s.size ∧ s.extract 0 100 = ⟨d.toArray⟩))
    (hq : bits BinOp.and .i64 (q : Int) 65535 = (q : Int)) (hq2 : q < 65536) (hh : (q : Int) / 256 = (h : Int)) (hh2 : h < 256) (hm : bits BinOp.and .i64 (q : Int) 255 = (m : Int)) (hm2 : m < 256)
    (hc1 : Hid (∀ W : World, (convert 45 9 (.slice (some ⟨W.heap.size, 0, none⟩) 2 2)).run Try.prog (W.alloc (.cells #[Value.int .u8 (h : Int), Value.int .u8 (m : Int)] 5)) = .ok (.string ⟨T.toArray⟩) (W.alloc (.cells #[Value.int .u8 (h : Int), Value.int .u8 (m : Int)] 5))))
    (r1 : Sums [255, 3] T A) (r2 : Sums A d B)
    (M : Hid (∀ w, Calls Try.prog 15 #[.string ⟨B.toArray⟩] w fun e w' => e = .returned (.string ⟨X.toArray⟩) ∧ Below w.heap.size w w'))
    (S : Hid (∀ w, Calls Try.prog 14 #[.string ⟨X.toArray⟩, .int .i64 0] w fun e w' => e = .returned (.string ⟨Y.toArray⟩) ∧ Below w.heap.size w w'))
    (G : Hid (∀ w, Calls Try.prog 16 #[.string ⟨Y.toArray⟩] w fun e w' => e = .returned (.tuple #[.agg #[.int .i64 q, .string ⟨d.toArray⟩], .int .i64 0]) ∧ Below w.heap.size w w'))
    (P : Hid (∀ w, Calls Try.prog 10 #[.agg #[.int .i64 (q : Int), .string ⟨d.toArray⟩], .int .i64 0] w fun e w' => e = .returned (.tuple #[.string U, .int .i64 0]) ∧ Below w.heap.size w w')) :
    Calls Try.prog 7 #[.int .i64 (q : Int), .string s] w fun e w' => e = .returned (.bool true) ∧ Below w.heap.size w w' := by
  have F1 := Lib.hid (fine_ways (q : Int))
  have F2 := Lib.hid (fine_nat q h hq2 hh)
  have HF := Lib.hid hfine
  have HO := Lib.hid hok
  have HD := Lib.hid hd
  have R1 := Lib.hid r1
  have R2 := Lib.hid r2
  have HQ := Lib.hid hq
  have HH := Lib.hid hh
  have HM := Lib.hid hm
  clear hfine hok hd r1 r2 hq hh hm
  go_enter Try.func7, Try.ntmps7
  go_wp2_with fail
  refine (awake_any _).mono ?_
  rintro e w0 ⟨rfl, hb0⟩
  have B0 := Lib.hid hb0
  clear hb0
  go_upto_region 3 with (fail)
  go_cut [5] (fun t wx => t = .bool (Frm.good (q : Int)) ∧ w0 = wx)
  case first =>
    clear P G S M R1 R2 hc1 HQ HM F1
    rcases F2.out with ⟨h1, h2⟩ | ⟨h0, h1, h3, h2⟩ | ⟨h1, h3, h2⟩
    · have := HO.out
      rw [h2] at this
      cases this
    · have H2 := Lib.hid h2
      have hh := HH.out
      clear F2 HF HO HD h2
      go_wp2_with fail
      go_meet
      case rel => exact ⟨ret0 H2.out.symm, rfl⟩
    · have := HO.out
      rw [h2] at this
      cases this
  case rest =>
    obtain ⟨rfl, rfl⟩ := hcut
    rw [HF.out]
    clear F1
    go_upto_if 36 with (fail)
    go_cut [6] (fun t wx => t = .string ⟨d.toArray⟩ ∧ w0 = wx)
    case first =>
      clear P G S M R1 R2 hc1 HQ HH HM F2
      rcases HD.out with ⟨h1, h2⟩ | ⟨h1, h2⟩
      · subst h2
        clear HD
        go_wp2_with fail
        go_meet
        case rel => exact ⟨rfl, rfl⟩
      · clear HD
        go_wp2_with fail
        go_meet
        case rel => exact ⟨rfl, rfl⟩
    case rest =>
      obtain ⟨rfl, rfl⟩ := hcut
      clear HD
      go_wp2_with fail
      refine (P.out _).mono ?_
      rintro e w1 ⟨rfl, hb1⟩
      have B1 := Lib.hid (bel2 B0.out hb1)
      clear hb1
      have hq := HQ.out
      have hh := HH.out
      have hm := HM.out
      have r1 := R1.out
      have r2 := R2.out
      unfold Sums at r1 r2
      have c1 := hc1.out w1
      go_wp2_with (go_at_call 12; refine (num_any _ _).mono ?_; rintro e w9 ⟨rfl, rfl⟩)
      refine (M.out _).mono ?_
      rintro e w2 ⟨rfl, hb2⟩
      have B2 := Lib.hid (B1.out.trans ((((Below.refl w1.heap.size w1).alloc (Nat.le_refl _) _).trans (hb2.mono (by simp))).mono B1.out.size))
      clear hb2 c1 r1 r2
      go_wp2_with fail
      refine (S.out _).mono ?_
      rintro e w3 ⟨rfl, hb3⟩
      have B3 := Lib.hid (bel2 B2.out hb3)
      clear hb3
      go_wp2_with fail
      refine (G.out _).mono ?_
      rintro e w4 ⟨rfl, hb4⟩
      have B4 := Lib.hid (bel2 B3.out hb4)
      clear hb4
      go_upto_region 13 with (fail)
      go_cut [13] (fun t wx => t = .bool (Frm.good (q : Int)) ∧ w4.alloc (.cells #[.int .i64 q, .string ⟨d.toArray⟩] 23) = wx)
      case first =>
        clear P G S M R1 R2 hc1 HQ HM hm hq
        rcases F2.out with ⟨h1, h2⟩ | ⟨h0, h1, h3, h2⟩ | ⟨h1, h3, h2⟩
        all_goals
          have H2 := Lib.hid h2
          clear F2 HF HO h2
          go_wp2_with fail
          go_meet
          case rel => exact ⟨ret0 H2.out.symm, rfl⟩
      case rest =>
        obtain ⟨rfl, rfl⟩ := hcut
        rw [HO.out]
        clear hq hh hm
        go_wp2_with (go_at_call 12; refine (num_any _ _).mono ?_; rintro e w9 ⟨rfl, rfl⟩)
        go_ret
        exact ⟨rfl, B4.out.alloc B4.out.size _⟩
set_option maxRecDepth 100000 in
set_option maxHeartbeats 6400000 in
theorem protos_ft (p : Int) (q h m : Nat) (s : ByteArray) (d T A B X Y : List UInt8) (w : World) (hfine : Frm.good p = false) (hok : Frm.good (q : Int) = true)
    (hs : s.size ≤ 9223372036854775807) (hd : (s.size ≤ 100 ∧ s = ⟨d.toArray⟩) ∨ (100 < s.size ∧ s.extract 0 100 = ⟨d.toArray⟩))
    (hq : bits BinOp.and .i64 p 65535 = (q : Int)) (hq2 : q < 65536) (hh : (q : Int) / 256 = (h : Int)) (hh2 : h < 256) (hm : bits BinOp.and .i64 (q : Int) 255 = (m : Int)) (hm2 : m < 256)
    (hc1 : Hid (∀ W : World, (convert 45 9 (.slice (some ⟨W.heap.size, 0, none⟩) 2 2)).run Try.prog (W.alloc (.cells #[Value.int .u8 (h : Int), Value.int .u8 (m : Int)] 5)) = .ok (.string ⟨T.toArray⟩) (W.alloc (.cells #[Value.int .u8 (h : Int), Value.int .u8 (m : Int)] 5))))
    (r1 : Sums [255, 3] T A) (r2 : Sums A d B)
    (M : Hid (∀ w, Calls Try.prog 15 #[.string ⟨B.toArray⟩] w fun e w' => e = .returned (.string ⟨X.toArray⟩) ∧ Below w.heap.size w w'))
    (S : Hid (∀ w, Calls Try.prog 14 #[.string ⟨X.toArray⟩, .int .i64 0] w fun e w' => e = .returned (.string ⟨Y.toArray⟩) ∧ Below w.heap.size w w'))
    (G : Hid (∀ w, Calls Try.prog 16 #[.string ⟨Y.toArray⟩] w fun e w' => e = .returned (.tuple #[.agg #[.int .i64 q, .string ⟨d.toArray⟩], .int .i64 0]) ∧ Below w.heap.size w w'))
    (P : Hid (∀ w, Calls Try.prog 10 #[.agg #[.int .i64 p, .string ⟨d.toArray⟩], .int .i64 0] w fun e w' => e = .returned (.tuple #[.string ⟨#[]⟩, .int .i64 303]) ∧ Below w.heap.size w w')) :
    Calls Try.prog 7 #[.int .i64 p, .string s] w fun e w' => e = .returned (.bool true) ∧ Below w.heap.size w w' := by
  have F1 := Lib.hid (fine_ways p)
  have F2 := Lib.hid (fine_nat q h hq2 hh)
  have HF := Lib.hid hfine
  have HO := Lib.hid hok
  have HD := Lib.hid hd
  have R1 := Lib.hid r1
  have R2 := Lib.hid r2
  have HQ := Lib.hid hq
  have HH := Lib.hid hh
  have HM := Lib.hid hm
  clear hfine hok hd r1 r2 hq hh hm
  go_enter Try.func7, Try.ntmps7
  go_wp2_with fail
  refine (awake_any _).mono ?_
  rintro e w0 ⟨rfl, hb0⟩
  have B0 := Lib.hid hb0
  clear hb0
  go_upto_region 3 with (fail)
  go_cut [5] (fun t wx => t = .bool (Frm.good p) ∧ w0 = wx)
  case first =>
    clear P G S M R1 R2 hc1 HQ HH HM F2
    rcases F1.out with ⟨h1, h2⟩ | ⟨h1, h2⟩ | ⟨n, h, rfl, h3, h4, h5, h6, ⟨h7, h2⟩ | ⟨h7, h8, h2⟩ | ⟨h7, h8, h2⟩⟩
    all_goals
      have H2 := Lib.hid h2
      clear F1 HF HO HD h2
      go_wp2_with fail
      go_meet
      case rel => exact ⟨ret0 H2.out.symm, rfl⟩
  case rest =>
    obtain ⟨rfl, rfl⟩ := hcut
    rw [HF.out]
    clear F1
    go_upto_if 36 with (fail)
    go_cut [6] (fun t wx => t = .string ⟨d.toArray⟩ ∧ w0 = wx)
    case first =>
      clear P G S M R1 R2 hc1 HQ HH HM F2
      rcases HD.out with ⟨h1, h2⟩ | ⟨h1, h2⟩
      · subst h2
        clear HD
        go_wp2_with fail
        go_meet
        case rel => exact ⟨rfl, rfl⟩
      · clear HD
        go_wp2_with fail
        go_meet
        case rel => exact ⟨rfl, rfl⟩
    case rest =>
      obtain ⟨rfl, rfl⟩ := hcut
      clear HD
      go_wp2_with fail
      refine (P.out _).mono ?_
      rintro e w1 ⟨rfl, hb1⟩
      have B1 := Lib.hid (bel2 B0.out hb1)
      clear hb1
      have hq := HQ.out
      have hh := HH.out
      have hm := HM.out
      have r1 := R1.out
      have r2 := R2.out
      unfold Sums at r1 r2
      have c1 := hc1.out w1
      go_wp2_with (go_at_call 12; refine (num_any _ _).mono ?_; rintro e w9 ⟨rfl, rfl⟩)
      refine (M.out _).mono ?_
      rintro e w2 ⟨rfl, hb2⟩
      have B2 := Lib.hid (B1.out.trans ((((Below.refl w1.heap.size w1).alloc (Nat.le_refl _) _).trans (hb2.mono (by simp))).mono B1.out.size))
      clear hb2 c1 r1 r2
      go_wp2_with fail
      refine (S.out _).mono ?_
      rintro e w3 ⟨rfl, hb3⟩
      have B3 := Lib.hid (bel2 B2.out hb3)
      clear hb3
      go_wp2_with fail
      refine (G.out _).mono ?_
      rintro e w4 ⟨rfl, hb4⟩
      have B4 := Lib.hid (bel2 B3.out hb4)
      clear hb4
      go_upto_region 13 with (fail)
      go_cut [13] (fun t wx => t = .bool (Frm.good (q : Int)) ∧ w4.alloc (.cells #[.int .i64 q, .string ⟨d.toArray⟩] 23) = wx)
      case first =>
        clear P G S M R1 R2 hc1 HQ HM hm hq
        rcases F2.out with ⟨h1, h2⟩ | ⟨h0, h1, h3, h2⟩ | ⟨h1, h3, h2⟩
        all_goals
          have H2 := Lib.hid h2
          clear F2 HF HO h2
          go_wp2_with fail
          go_meet
          case rel => exact ⟨ret0 H2.out.symm, rfl⟩
      case rest =>
        obtain ⟨rfl, rfl⟩ := hcut
        rw [HO.out]
        clear hq hh hm
        go_wp2_with (go_at_call 12; refine (num_any _ _).mono ?_; rintro e w9 ⟨rfl, rfl⟩)
        go_ret
        exact ⟨rfl, B4.out.alloc B4.out.size _⟩
set_option maxRecDepth 100000 in
set_option maxHeartbeats 6400000 in
theorem protos_ff (p : Int) (q h m : Nat) (s : ByteArray) (d T A B X Y : List UInt8) (w : World) (hfine : Frm.good p = false) (hok : Frm.good (q : Int) = false)
    (hs : s.size ≤ 9223372036854775807) (hd : (s.size ≤ 100 ∧ s = ⟨d.toArray⟩) ∨ (100 < s.size ∧ s.extract 0 100 = ⟨d.toArray⟩))
    (hq : bits BinOp.and .i64 p 65535 = (q : Int)) (hq2 : q < 65536) (hh : (q : Int) / 256 = (h : Int)) (hh2 : h < 256) (hm : bits BinOp.and .i64 (q : Int) 255 = (m : Int)) (hm2 : m < 256)
    (hc1 : Hid (∀ W : World, (convert 45 9 (.slice (some ⟨W.heap.size, 0, none⟩) 2 2)).run Try.prog (W.alloc (.cells #[Value.int .u8 (h : Int), Value.int .u8 (m : Int)] 5)) = .ok (.string ⟨T.toArray⟩) (W.alloc (.cells #[Value.int .u8 (h : Int), Value.int .u8 (m : Int)] 5))))
    (r1 : Sums [255, 3] T A) (r2 : Sums A d B)
    (M : Hid (∀ w, Calls Try.prog 15 #[.string ⟨B.toArray⟩] w fun e w' => e = .returned (.string ⟨X.toArray⟩) ∧ Below w.heap.size w w'))
    (S : Hid (∀ w, Calls Try.prog 14 #[.string ⟨X.toArray⟩, .int .i64 0] w fun e w' => e = .returned (.string ⟨Y.toArray⟩) ∧ Below w.heap.size w w'))
    (G : Hid (∀ w, Calls Try.prog 16 #[.string ⟨Y.toArray⟩] w fun e w' => e = .returned (.tuple #[.agg #[.int .i64 0, .string ⟨#[]⟩], .int .i64 303]) ∧ Below w.heap.size w w'))
    (P : Hid (∀ w, Calls Try.prog 10 #[.agg #[.int .i64 p, .string ⟨d.toArray⟩], .int .i64 0] w fun e w' => e = .returned (.tuple #[.string ⟨#[]⟩, .int .i64 303]) ∧ Below w.heap.size w w')) :
    Calls Try.prog 7 #[.int .i64 p, .string s] w fun e w' => e = .returned (.bool true) ∧ Below w.heap.size w w' := by
  have F1 := Lib.hid (fine_ways p)
  have F2 := Lib.hid (fine_nat q h hq2 hh)
  have HF := Lib.hid hfine
  have HO := Lib.hid hok
  have HD := Lib.hid hd
  have R1 := Lib.hid r1
  have R2 := Lib.hid r2
  have HQ := Lib.hid hq
  have HH := Lib.hid hh
  have HM := Lib.hid hm
  clear hfine hok hd r1 r2 hq hh hm
  go_enter Try.func7, Try.ntmps7
  go_wp2_with fail
  refine (awake_any _).mono ?_
  rintro e w0 ⟨rfl, hb0⟩
  have B0 := Lib.hid hb0
  clear hb0
  go_upto_region 3 with (fail)
  go_cut [5] (fun t wx => t = .bool (Frm.good p) ∧ w0 = wx)
  case first =>
    clear P G S M R1 R2 hc1 HQ HH HM F2
    rcases F1.out with ⟨h1, h2⟩ | ⟨h1, h2⟩ | ⟨n, h, rfl, h3, h4, h5, h6, ⟨h7, h2⟩ | ⟨h7, h8, h2⟩ | ⟨h7, h8, h2⟩⟩
    all_goals
      have H2 := Lib.hid h2
      clear F1 HF HO HD h2
      go_wp2_with fail
      go_meet
      case rel => exact ⟨ret0 H2.out.symm, rfl⟩
  case rest =>
    obtain ⟨rfl, rfl⟩ := hcut
    rw [HF.out]
    clear F1
    go_upto_if 36 with (fail)
    go_cut [6] (fun t wx => t = .string ⟨d.toArray⟩ ∧ w0 = wx)
    case first =>
      clear P G S M R1 R2 hc1 HQ HH HM F2
      rcases HD.out with ⟨h1, h2⟩ | ⟨h1, h2⟩
      · subst h2
        clear HD
        go_wp2_with fail
        go_meet
        case rel => exact ⟨rfl, rfl⟩
      · clear HD
        go_wp2_with fail
        go_meet
        case rel => exact ⟨rfl, rfl⟩
    case rest =>
      obtain ⟨rfl, rfl⟩ := hcut
      clear HD
      go_wp2_with fail
      refine (P.out _).mono ?_
      rintro e w1 ⟨rfl, hb1⟩
      have B1 := Lib.hid (bel2 B0.out hb1)
      clear hb1
      have hq := HQ.out
      have hh := HH.out
      have hm := HM.out
      have r1 := R1.out
      have r2 := R2.out
      unfold Sums at r1 r2
      have c1 := hc1.out w1
      go_wp2_with (go_at_call 12; refine (num_any _ _).mono ?_; rintro e w9 ⟨rfl, rfl⟩)
      refine (M.out _).mono ?_
      rintro e w2 ⟨rfl, hb2⟩
      have B2 := Lib.hid (B1.out.trans ((((Below.refl w1.heap.size w1).alloc (Nat.le_refl _) _).trans (hb2.mono (by simp))).mono B1.out.size))
      clear hb2 c1 r1 r2
      go_wp2_with fail
      refine (S.out _).mono ?_
      rintro e w3 ⟨rfl, hb3⟩
      have B3 := Lib.hid (bel2 B2.out hb3)
      clear hb3
      go_wp2_with fail
      refine (G.out _).mono ?_
      rintro e w4 ⟨rfl, hb4⟩
      have B4 := Lib.hid (bel2 B3.out hb4)
      clear hb4
      go_upto_region 13 with (fail)
      go_cut [13] (fun t wx => t = .bool (Frm.good (q : Int)) ∧ w4.alloc (.cells #[.int .i64 0, .string ⟨#[]⟩] 23) = wx)
      case first =>
        clear P G S M R1 R2 hc1 HQ HM hm hq
        rcases F2.out with ⟨h1, h2⟩ | ⟨h0, h1, h3, h2⟩ | ⟨h1, h3, h2⟩
        all_goals
          have H2 := Lib.hid h2
          clear F2 HF HO h2
          go_wp2_with fail
          go_meet
          case rel => exact ⟨ret0 H2.out.symm, rfl⟩
      case rest =>
        obtain ⟨rfl, rfl⟩ := hcut
        rw [HO.out]
        clear hq hh hm
        go_wp2_with (go_at_call 12; refine (num_any _ _).mono ?_; rintro e w9 ⟨rfl, rfl⟩)
        go_ret
        exact ⟨rfl, B4.out.alloc B4.out.size _⟩
theorem i64_and65535 (n : Int) : bits BinOp.and IntKind.i64 n 65535 = n % 65536 := by
  have e : (BitVec.ofInt 64 (65535 : Int)).toNat = 65535 := ofInt_i64 65535 (by omega)
  show IntKind.i64.wrap ((BitVec.ofInt 64 n &&& BitVec.ofInt 64 65535).toNat : Int) = _
  rw [BitVec.toNat_and, e, show (65535 : Nat) = 2 ^ 16 - 1 from rfl, Nat.and_two_pow_sub_one_eq_mod, BitVec.toNat_ofInt, i64_wrap _ (by omega)]
  omega
theorem first_hundred (s : ByteArray) : ∃ d : List UInt8, d.length ≤ 100 ∧ ((s.size ≤ 100 ∧ s = ⟨d.toArray⟩) ∨ (100 < s.size ∧ s.extract 0 100 = ⟨d.toArray⟩)) := by
  by_cases h : s.size ≤ 100
  · exact ⟨s.data.toList, by simpa using h, .inl ⟨h, by simp⟩⟩
  · refine ⟨s.data.toList.take 100, List.length_take_le _ _, .inr ⟨by omega, ?_⟩⟩
    apply ByteArray.ext; apply Array.toList_inj.1; simp [ByteArray.data_extract, List.extract]
theorem walk_protos (p : Int) (s : ByteArray) (w : World) (_wp : (Lit.int .i64 p).wf = true) (hs : s.size ≤ maxLen) :
    Calls Try.prog 7 #[.int .i64 p, .string s] w fun e w' => e = .returned (.bool true) ∧ Below w.heap.size w w' := by
  obtain ⟨d, hd1, hd2⟩ := first_hundred s
  obtain ⟨q, hq⟩ : ∃ q : Nat, p % 65536 = (q : Int) := ⟨(p % 65536).toNat, by omega⟩
  obtain ⟨h, hh⟩ : ∃ h : Nat, q / 256 = h := ⟨_, rfl⟩
  obtain ⟨m, hm⟩ : ∃ m : Nat, q % 256 = m := ⟨_, rfl⟩
  have hs2 : s.size ≤ 9223372036854775807 := by unfold maxLen at hs; omega
  have hq2 : q < 65536 := by omega
  have a1 : bits BinOp.and .i64 p 65535 = (q : Int) := by rw [i64_and65535, hq]
  have a2 : (q : Int) / 256 = (h : Int) := by omega
  have a3 : bits BinOp.and .i64 (q : Int) 255 = (m : Int) := by rw [and255 q hq2, hm]
  have hb := Frm.body_length q d
  have hw := Frm.wire_length 0 q d
  have ht : (Frm.two q).length = 2 := rfl
  have hcells := two_cells q hq2
  have a4 : (q : Int) % 256 = (m : Int) := by omega
  rw [a2, a4] at hcells
  have C1 := fun W => conv_new W (Frm.two q) _ hcells
  rw [ht] at C1
  have M := fun w => F.sum_list (Frm.body q d) w (by rw [sz]; unfold maxLen; omega)
  have S := fun w => S.stuff_list (Crc.put (Frm.body q d)) 0 w (by rw [Crc.put_length]; omega)
  have G := fun w => fget_any (Frm.wire 0 q d) w (by omega)
  have P := fun w => fput_any p d 0 w (by unfold maxLen; omega)
  have r1 := sums [255, 3] (Frm.two q) (by simp) (by omega)
  have r2 := sums ([255, 3] ++ Frm.two q) d (by simp; omega) (by omega)
  by_cases hf : Frm.good p = true
  · obtain ⟨n, rfl, _, hn, _, _⟩ := Frm.good_nat _ hf
    obtain rfl : n = q := by omega
    rw [Frm.get_wire _ _ _ hf (by omega)] at G
    rw [Frm.put_good _ _ _ (Frm.code_good _ _ hf (by omega))] at P
    exact protos_tt n h m s _ d _ _ _ _ _ w hf hf hs2 hd2 a1 hq2 a2 (by omega) a3 (by omega) (Lib.hid C1) r1 r2 (Lib.hid M) (Lib.hid S) (Lib.hid G) (Lib.hid P)
  · have hf : Frm.good p = false := by simpa using hf
    have hcp := Frm.code_bad p d.length hf
    rw [Frm.put_bad _ _ _ (by omega), hcp] at P
    by_cases ho : Frm.good (q : Int) = true
    · rw [Frm.get_wire _ _ _ ho (by omega)] at G
      exact protos_ft p q h m s d _ _ _ _ _ w hf ho hs2 hd2 a1 hq2 a2 (by omega) a3 (by omega) (Lib.hid C1) r1 r2 (Lib.hid M) (Lib.hid S) (Lib.hid G) (Lib.hid P)
    · have ho : Frm.good (q : Int) = false := by simpa using ho
      have hcq := Frm.code_bad (q : Int) d.length ho
      have e : Frm.get (Frm.wire 0 q d) = ((0, []), 303) := by
        unfold Frm.wire
        rw [Frm.get_sealed _ _ (by omega), Frm.read_body _ _ hq2, hcq, if_neg (by decide)]
      rw [e] at G
      exact protos_ff p q h m s d _ _ _ _ _ w hf ho hs2 hd2 a1 hq2 a2 (by omega) a3 (by omega) (Lib.hid C1) r1 r2 (Lib.hid M) (Lib.hid S) (Lib.hid G) (Lib.hid P)
end Go.Proofs.Ytnkkompmdngkgaa.R
