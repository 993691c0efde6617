/-
  Contract of the program's Put of a fragment.
-/
import Derived.Test.YtlolnbmdjnnkjaaD1
import Derived.Test.YtlolnbmdjnnkjaaRoom
import Derived.Test.YtlolnbmdjnnkjaaPushS
import Derived.Test.YtlolnbmdjnnkjaaBox2
namespace Go.Proofs.Ytlolnbmdjnnkjaa.D
open Go.RowKit
set_option maxHeartbeats 800000 in
/-- A number that is none. -/
theorem put_seq (short b e : Bool) (zn B E M q m : Int) (d : ByteArray) (w : World) (hm : bits BinOp.and IntKind.u32 (q % 4294967296) M = m) (hq : (q != m) = true) (h0 : 0 ≤ m ∧ m ≤ 4294967295)
    (HD : Hid (∀ W, Calls Try.prog 13 #[.bool short] W fun r w' => r = .returned (.agg #[.int .i64 zn, .int .u32 B, .int .u32 E, .int .u32 M]) ∧ Below W.heap.size W w')) :
    Calls Try.prog 7 #[.agg #[.bool b, .bool e, .int .i64 q, .string d], .bool short] w fun r w' => r = .returned (.tuple #[.string ⟨#[]⟩, .int .i64 801]) ∧ Below w.heap.size w w' := by
  have X0 := Lib.hid (Box.new w [.bool b, .bool e, .int .i64 q, .string d] 23)
  have B0 := Lib.hid ((Below.refl w.heap.size w).alloc (Nat.le_refl _) (.cells #[.bool b, .bool e, .int .i64 q, .string d] 23))
  go_enter Try.func7, Try.ntmps7
  go_wp2_with fail
  refine (HD.out _).mono ?_
  rintro r w1 ⟨rfl, hb1⟩
  have X1 := X0.out.below hb1
  have B1 := Lib.hid (bel2 B0.out hb1)
  have k2 := X1 2 _ rfl
  have k3 := X1 3 _ rfl
  have z1 := X1.lt
  clear hb1 X1
  go_wp2_with fail
  go_ret2
  exact ⟨rfl, B1.out.alloc B1.out.size _⟩
set_option maxHeartbeats 800000 in
/-- Too much data. -/
theorem put_long (short b e : Bool) (zn B E M q m : Int) (d : ByteArray) (w : World) (hm : bits BinOp.and IntKind.u32 (q % 4294967296) M = m) (hq : (q != m) = false) (h0 : 0 ≤ m ∧ m ≤ 4294967295) (hd : 2048 < (d.size : Int))
    (HD : Hid (∀ W, Calls Try.prog 13 #[.bool short] W fun r w' => r = .returned (.agg #[.int .i64 zn, .int .u32 B, .int .u32 E, .int .u32 M]) ∧ Below W.heap.size W w')) :
    Calls Try.prog 7 #[.agg #[.bool b, .bool e, .int .i64 q, .string d], .bool short] w fun r w' => r = .returned (.tuple #[.string ⟨#[]⟩, .int .i64 801]) ∧ Below w.heap.size w w' := by
  have LG := Lib.hid fun W => long_any d W
  rw [decide_eq_true hd] at LG
  have X0 := Lib.hid (Box.new w [.bool b, .bool e, .int .i64 q, .string d] 23)
  have B0 := Lib.hid ((Below.refl w.heap.size w).alloc (Nat.le_refl _) (.cells #[.bool b, .bool e, .int .i64 q, .string d] 23))
  clear hd
  go_enter Try.func7, Try.ntmps7
  go_wp2_with fail
  refine (HD.out _).mono ?_
  rintro r w1 ⟨rfl, hb1⟩
  have X1 := X0.out.below hb1
  have B1 := Lib.hid (bel2 B0.out hb1)
  have k2 := X1 2 _ rfl
  have k3 := X1 3 _ rfl
  have z1 := X1.lt
  clear hb1 X1
  go_wp2_with (go_at_call 14; refine (LG.out _).mono ?_; rintro r w2 ⟨rfl, rfl⟩)
  go_ret2
  exact ⟨rfl, B1.out.alloc B1.out.size _⟩
theorem be_step (z N j : Nat) (h : j < z) : Mph.be (z - j) (N / 256 ^ j) = Mph.be (z - (j + 1)) (N / 256 ^ (j + 1)) ++ [UInt8.ofNat (N / 256 ^ j)] := by
  rw [show z - j = z - (j + 1) + 1 by omega, Mph.be, Nat.div_div_eq_div_mul, ← Nat.pow_succ]
theorem shift_byte (N j : Nat) : (N : Int) / 2 ^ (8 * j) % 256 = ((UInt8.ofNat (N / 256 ^ j)).toNat : Int) := by
  have e : (256 : Nat) ^ j = 2 ^ (8 * j) := by rw [show (256 : Nat) = 2 ^ 8 from rfl, ← Nat.pow_mul]
  rw [e]
  simp
set_option maxRecDepth 100000 in
set_option maxHeartbeats 1600000 in
theorem put_fine (short b e : Bool) (zn N : Nat) (B E M q m : Int) (d : List UInt8) (w : World) (hsz : 1 ≤ zn ∧ zn ≤ 4) (hN : N < 4294967296) (hm : bits BinOp.and IntKind.u32 (q % 4294967296) M = m) (hq : (q != m) = false) (h0 : 0 ≤ m ∧ m ≤ 4294967295) (hd : d.length ≤ 2048)
    (HD : Hid (∀ W, Calls Try.prog 13 #[.bool short] W fun r w' => r = .returned (.agg #[.int .i64 zn, .int .u32 B, .int .u32 E, .int .u32 M]) ∧ Below W.heap.size W w'))
    (NU : Hid (∀ W, Calls Try.prog 15 #[.agg #[.int .i64 zn, .int .u32 B, .int .u32 E, .int .u32 M], .agg #[.bool b, .bool e, .int .i64 q, .string ⟨d.toArray⟩]] W fun r w' => r = .returned (.int .u32 N) ∧ Below W.heap.size W w')) :
    Calls Try.prog 7 #[.agg #[.bool b, .bool e, .int .i64 q, .string ⟨d.toArray⟩], .bool short] w fun r w' => r = .returned (.tuple #[.string ⟨(Mph.be zn N ++ d).toArray⟩, .int .i64 0]) ∧ Below w.heap.size w w' := by
  have LG := Lib.hid fun W => long_any ⟨d.toArray⟩ W
  rw [sz, decide_eq_false (by omega)] at LG
  have X0 := Lib.hid (Box.new w [.bool b, .bool e, .int .i64 q, .string ⟨d.toArray⟩] 23)
  have B0 := Lib.hid ((Below.refl w.heap.size w).alloc (Nat.le_refl _) (.cells #[.bool b, .bool e, .int .i64 q, .string ⟨d.toArray⟩] 23))
  obtain ⟨hs1, hs2⟩ := hsz
  have RM := fun W => make_room (zn + d.length) (by omega) W
  rw [show ((zn + d.length : Nat) : Int) = (zn : Int) + (d.length : Int) by omega] at RM
  have RO := Lib.hid fun W => Owns.room W (zn + d.length) (by omega)
  go_enter Try.func7, Try.ntmps7
  go_wp2_with fail
  refine (HD.out _).mono ?_
  rintro r w1 ⟨rfl, hb1⟩
  have X1 := X0.out.below hb1
  have B1 := Lib.hid (bel2 B0.out hb1)
  have Y1 := Lib.hid (Box.new w1 [.int .i64 zn, .int .u32 B, .int .u32 E, .int .u32 M] 41)
  have XX1 := Lib.hid (X1.alloc (.cells #[.int .i64 zn, .int .u32 B, .int .u32 E, .int .u32 M] 41))
  have BB1 := Lib.hid (B1.out.alloc B1.out.size (.cells #[.int .i64 zn, .int .u32 B, .int .u32 E, .int .u32 M] 41))
  have k0 := X1 0 _ rfl
  have k1 := X1 1 _ rfl
  have k2 := X1 2 _ rfl
  have k3 := X1 3 _ rfl
  have z1 := X1.lt
  clear hb1 X1
  go_wp2_with (go_at_call 14; refine (LG.out _).mono ?_; rintro r w2 ⟨rfl, rfl⟩)
  clear k0 k1 k2 k3
  refine (NU.out _).mono ?_
  rintro r w3 ⟨rfl, hb3⟩
  have X3 := XX1.out.below hb3
  have Y3 := Y1.out.below hb3
  have B3 := Lib.hid (bel2 BB1.out hb3)
  have HX3 := Lib.hid X3
  have k3 := X3 3 _ rfl
  have m0 := Y3 0 _ rfl
  have z3 := Y3.lt
  have R3 := Lib.hid (RO.out w3)
  clear hb3 X3 Y3
  go_wp2_with fail
  go_loopw [8, 9] (fun s8 s9 wr => ∃ j : Nat, ∃ y : Int, j ≤ zn ∧ y = (j : Int) - 1 ∧ s9 = .int .i64 y ∧ Owns w3 wr s8 (Mph.be (zn - j) (N / 256 ^ j))) (fun _ i _ => (intOf i + 1).toNat)
  case atStart =>
    refine ⟨zn, (zn : Int) - 1, Nat.le_refl _, rfl, rfl, ?_⟩
    rw [Nat.sub_self]
    exact R3.out
  case round =>
    obtain ⟨j, y, hj, hy, rfl, ho⟩ := hrel
    have HO := Lib.hid ho
    clear ho
    rcases j with _ | j
    · have hn : y < 0 := by omega
      clear hy
      rw [Nat.sub_zero, Nat.pow_zero, Nat.div_one] at HO
      have hl := Mph.be_length zn N
      obtain ⟨l, hle⟩ : ∃ l, l = Mph.be zn N := ⟨_, rfl⟩
      rw [← hle] at HO hl
      have HL := Lib.hid hle
      clear hle
      have k4 := cell_below k3 HO.out.2
      go_wp2_with (at_builtin; refine wp_pushS rfl _ _ rfl l d HO.out rfl rfl (by omega) ?_)
      intro v' w5 hown5
      have ht := own_text hown5.1
      have H5 := Lib.hid hown5.2
      clear hown5
      go_wp2_with fail
      go_ret2
      exact ⟨by rw [← HL.out]; rfl, bel2 B3.out H5.out⟩
    · have HS := Lib.hid (be_step zn N j (by omega))
      obtain rfl : y = (j : Int) := by omega
      have hl := Mph.be_length (zn - (j + 1)) (N / 256 ^ (j + 1))
      generalize Mph.be (zn - (j + 1)) (N / 256 ^ (j + 1)) = l at *
      have g := shift_byte N j
      generalize UInt8.ofNat (N / 256 ^ j) = x at *
      have hj4 : j = 0 ∨ j = 1 ∨ j = 2 ∨ j = 3 := by omega
      clear hy
      rcases hj4 with rfl | rfl | rfl | rfl
      · rw [show (2 : Int) ^ (8 * 0) = 1 by decide] at g
        rw [Int.ediv_one] at g
        go_wp2_with (at_builtin; refine wp_push rfl _ _ rfl l [x] HO.out rfl rfl (by simp; omega) ?_)
        intro v' w5 hown5
        have H5 := Lib.hid hown5
        clear hown5
        go_wp2_with fail
        go_roundw
        case rel => exact ⟨0, (0 : Int) - 1, by omega, rfl, by go_num, by rw [HS.out]; exact H5.out⟩
        case measure => simp [intOf]
      · rw [show (2 : Int) ^ (8 * 1) = 256 by decide] at g
        go_wp2_with (at_builtin; refine wp_push rfl _ _ rfl l [x] HO.out rfl rfl (by simp; omega) ?_)
        intro v' w5 hown5
        have H5 := Lib.hid hown5
        clear hown5
        go_wp2_with fail
        go_roundw
        case rel => exact ⟨1, (1 : Int) - 1, by omega, rfl, by go_num, by rw [HS.out]; exact H5.out⟩
        case measure => simp [intOf]
      · rw [show (2 : Int) ^ (8 * 2) = 65536 by decide] at g
        go_wp2_with (at_builtin; refine wp_push rfl _ _ rfl l [x] HO.out rfl rfl (by simp; omega) ?_)
        intro v' w5 hown5
        have H5 := Lib.hid hown5
        clear hown5
        go_wp2_with fail
        go_roundw
        case rel => exact ⟨2, (2 : Int) - 1, by omega, rfl, by go_num, by rw [HS.out]; exact H5.out⟩
        case measure => simp [intOf]
      · rw [show (2 : Int) ^ (8 * 3) = 16777216 by decide] at g
        have g2 : (N : Int) / 16777216 = (x.toNat : Int) := by omega
        go_wp2_with (at_builtin; refine wp_push rfl _ _ rfl l [x] HO.out rfl rfl (by simp; omega) ?_)
        intro v' w5 hown5
        have H5 := Lib.hid hown5
        clear hown5
        go_wp2_with fail
        go_roundw
        case rel => exact ⟨3, (3 : Int) - 1, by omega, rfl, by go_num, by rw [HS.out]; exact H5.out⟩
        case measure => simp [intOf]
end Go.Proofs.Ytlolnbmdjnnkjaa.D
