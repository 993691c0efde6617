/-
  The walks of three laws more: the residue, the eight steps, the short texts.
-/
import Derived.Test.YtfhohfjepnhfcaaW4
namespace Go.Proofs.Ytfhohfjepnhfcaa.Crc
theorem low_high8 (x : Nat) : x = (256 * (x / 256)) ^^^ (x % 256) := by
  apply Nat.eq_of_testBit_eq
  intro i
  have e1 : 256 * (x / 256) = 2 ^ 8 * (x / 2 ^ 8) := by simp
  have e2 : x % 256 = x % 2 ^ 8 := by simp
  rw [Nat.testBit_xor, e1, e2, Nat.testBit_mod_two_pow, Nat.testBit_two_pow_mul, Nat.testBit_div_two_pow]
  by_cases h : i < 8
  · simp [h, show ¬ 8 ≤ i by omega]
  · simp [h, show 8 ≤ i by omega, show i - 8 + 8 = i by omega]
theorem steps8_high (h : Nat) : steps 8 (256 * h) = h := by
  rw [show (8 : Nat) = 4 + 4 from rfl, steps_add, show 256 * h = 16 * (16 * h) by omega, steps4_high, steps4_high]
/-- Two bytes at once. -/
theorem byte_two (r x : Nat) : byte (byte r (x % 256)) (x / 256) = steps 16 (r ^^^ x) := by
  unfold byte
  rw [show (16 : Nat) = 8 + 8 from rfl, steps_add]
  conv => rhs; rw [low_high8 x]
  rw [Nat.xor_comm (256 * (x / 256)) (x % 256), ← Nat.xor_assoc, steps_xor 8 (r ^^^ x % 256), steps8_high]
/-- The register behind a text and its own sum is the same for all texts. -/
theorem reg_put (l : List UInt8) : reg (put l) = steps 16 65535 := by
  have h := sum_lt l
  have h2 : (UInt8.ofNat (sum l / 256)).toNat = sum l / 256 := by simp; omega
  have h1 : (UInt8.ofNat (sum l % 256)).toNat = sum l % 256 := by simp
  rw [put, reg_append]
  show byte (byte (reg l) (UInt8.ofNat (sum l % 256)).toNat) (UInt8.ofNat (sum l / 256)).toNat = _
  rw [h1, h2, byte_two, sum, ← Nat.xor_assoc, Nat.xor_self, Nat.zero_xor]
theorem sum_put (l : List UInt8) : sum (put l) = sum (put []) := by rw [sum, reg_put, sum, reg_put]
end Go.Proofs.Ytfhohfjepnhfcaa.Crc
namespace Go.Proofs.Ytfhohfjepnhfcaa
open Go.RowKit
set_option maxHeartbeats 400000 in
theorem walk_residue (s t : ByteArray) (_hs : s.size ≤ maxLen) (_ht : t.size ≤ maxLen) (w : World) (hr : s.size ≤ 140737488351232) (hrt : t.size ≤ 140737488351232) :
    Calls Try.prog 6 #[.string s, .string t] w fun e w' => e = .returned (.bool true) ∧ Below w.heap.size w w' := by
  have sz : ∀ u : ByteArray, u.size ≤ 140737488351232 → (ByteArray.mk (Crc.put u.data.toList).toArray).size ≤ maxLen := fun u hu => by
    have : (Crc.put u.data.toList).length = u.size + 2 := by rw [Crc.put_length]; simp
    unfold maxLen; simp only [ByteArray.size, List.size_toArray]; omega
  have p1 := fun w => put_any s w (by unfold maxLen; omega)
  have o1 := fun w => of_list (Crc.put s.data.toList) w (sz s hr)
  have p2 := fun w => put_any t w (by unfold maxLen; omega)
  have o2 := fun w => of_list (Crc.put t.data.toList) w (sz t hrt)
  have p3 := fun w => put_list [] w (by decide)
  have o3 := fun w => of_list (Crc.put []) w (by decide)
  rw [Crc.sum_put] at o1 o2
  have P1 := Lib.hid p1
  have P2 := Lib.hid p2
  have P3 := Lib.hid p3
  have O1 := Lib.hid o1
  have O2 := Lib.hid o2
  have O3 := Lib.hid o3
  clear p1 p2 p3 o1 o2 o3 sz
  generalize Crc.sum (Crc.put []) = m at *
  go_enter Try.func6, Try.ntmps6
  go_wp2_with fail
  refine (awake_any _).mono ?_
  rintro e w0 ⟨rfl, hb0⟩
  go_wp2_with fail
  refine (P1.out _).mono ?_
  rintro e w1 ⟨rfl, hb1⟩
  go_wp2_with fail
  refine (O1.out _).mono ?_
  rintro e w2 ⟨rfl, hb2⟩
  go_wp2_with fail
  refine (P2.out _).mono ?_
  rintro e w3 ⟨rfl, hb3⟩
  go_wp2_with fail
  refine (O2.out _).mono ?_
  rintro e w4 ⟨rfl, hb4⟩
  go_wp2_with fail
  refine (P1.out _).mono ?_
  rintro e w5 ⟨rfl, hb5⟩
  go_wp2_with fail
  refine (O1.out _).mono ?_
  rintro e w6 ⟨rfl, hb6⟩
  go_wp2_with fail
  refine (P3.out _).mono ?_
  rintro e w7 ⟨rfl, hb7⟩
  go_wp2_with fail
  refine (O3.out _).mono ?_
  rintro e w8 ⟨rfl, hb8⟩
  go_wp2_with (go_at_call 14; refine (num_any _ _).mono ?_; rintro e w7 ⟨rfl, rfl⟩)
  go_ret
  exact ⟨rfl, bel2 (bel2 (bel2 (bel2 (bel2 (bel2 (bel2 (bel2 hb0 hb1) hb2) hb3) hb4) hb5) hb6) hb7) hb8⟩
theorem i64_and255 (n : Int) : bits BinOp.and IntKind.i64 n 255 = n % 256 := by
  have e : (BitVec.ofInt 64 (255 : Int)).toNat = 255 := ofInt_i64 255 (by omega)
  show IntKind.i64.wrap ((BitVec.ofInt 64 n &&& BitVec.ofInt 64 255).toNat : Int) = _
  rw [BitVec.toNat_and, e, show (255 : Nat) = 2 ^ 8 - 1 from rfl, Nat.and_two_pow_sub_one_eq_mod, BitVec.toNat_ofInt, i64_wrap _ (by omega)]
  omega
set_option maxHeartbeats 400000 in
theorem walk_steps (s : ByteArray) (c : Int) (_hs : s.size ≤ maxLen) (_hc : (Lit.int .i64 c).wf = true) (w : World) (hr : s.size ≤ 140737488351232) :
    Calls Try.prog 5 #[.string s, .int .i64 c] w fun e w' => e = .returned (.bool true) ∧ Below w.heap.size w w' := by
  have o1 := fun w => of_any s w (by unfold maxLen; omega)
  have e1 : bits BinOp.xor IntKind.i64 (Crc.sum s.data.toList : Int) 65535 = (Crc.reg s.data.toList : Int) := by
    have h := Crc.sum_lt s.data.toList
    have := i64_xor_nat (Crc.sum s.data.toList) 65535 (by omega) (by omega)
    rw [show ((65535 : Nat) : Int) = 65535 from rfl] at this
    rw [this, Crc.sum, Nat.xor_assoc, Nat.xor_self, Nat.xor_zero]
  obtain ⟨b, hb⟩ : ∃ b : UInt8, (b.toNat : Int) = c % 256 := ⟨UInt8.ofNat (c % 256).toNat, by simp; omega⟩
  have e2 := i64_and255 c
  rw [← hb] at e2
  have hbl := b.toNat_lt
  have hy : Crc.reg s.data.toList ^^^ b.toNat < 65536 := Nat.xor_lt_two_pow (n := 16) (Crc.reg_lt _) (by omega)
  have e3 := i64_xor_nat (Crc.reg s.data.toList) b.toNat (by have := Crc.reg_lt s.data.toList; omega) (by omega)
  have hcv := fun W => conv_new W [b] #[Value.int .u8 (c % 256)] (by rw [← hb]; rfl)
  have hF : Crc.sum (s.data.toList ++ [b]) = Crc.steps 8 (Crc.reg s.data.toList ^^^ b.toNat) ^^^ 65535 := by
    rw [Crc.sum, Crc.reg_snoc]; rfl
  obtain ⟨u, hu⟩ : ∃ u : ByteArray, u = ⟨[b].toArray⟩ := ⟨_, rfl⟩
  have hsz : u.size = 1 := by rw [hu]; rfl
  have o2 := fun w => of_any (s ++ u) w (by unfold maxLen; rw [ByteArray.size_append]; omega)
  rw [show (s ++ u).data.toList = s.data.toList ++ [b] by rw [hu, bytes_append], hF] at o2
  rw [← hu] at hcv
  have o3 := fun w => of_list [] w (by decide)
  rw [show Crc.sum [] = 0 by decide] at o3
  have hl : ([b] : List UInt8).length = 1 := rfl
  rw [hl] at hcv
  have HB := Lib.hid hb
  clear hb hu hF hl
  generalize Crc.reg s.data.toList ^^^ b.toNat = y at *
  have hy8 := Crc.steps_lt (n := 8) hy
  have e4 := i64_xor_nat (Crc.steps 8 y) 65535 (by omega) (by omega)
  rw [show ((65535 : Nat) : Int) = 65535 from rfl] at e4
  generalize hye : Crc.steps 8 y ^^^ 65535 = fin at *
  have O1 := Lib.hid o1
  have O2 := Lib.hid o2
  have O3 := Lib.hid o3
  have HS := Lib.hid hsz
  have HY := Lib.hid hye
  have HC := Lib.hid hcv
  clear o1 o2 o3 hsz hye hcv
  go_enter Try.func5, Try.ntmps5
  go_wp2_with fail
  refine (awake_any _).mono ?_
  rintro e w0 ⟨rfl, hb0⟩
  go_wp2_with fail
  refine (O1.out _).mono ?_
  rintro e w1 ⟨rfl, hb1⟩
  go_wp2_with fail
  go_loop [5, 6] (fun x j => ∃ n : Nat, n ≤ 8 ∧ j = .int .i64 n ∧ x = .int .i64 (Crc.steps n y : Nat)) (fun _ j => 8 - (intOf j).toNat)
  case atStart => exact ⟨0, by omega, rfl, rfl⟩
  case round =>
    obtain ⟨n, hn, rfl, rfl⟩ := hrel
    have hx := Crc.steps_lt (n := n) hy
    have HT := Lib.hid (Crc.steps_succ n y)
    by_cases hlt8 : n < 8
    · generalize hxe : Crc.steps n y = x at *
      have HX := Lib.hid hxe
      clear hxe e4
      by_cases hodd : x % 2 = 1
      · obtain ⟨h1, h2⟩ := odd_step x hx hodd
        clear hodd
        go_wp2
        go_round
        case rel => exact ⟨n + 1, by omega, by go_num, by rw [HT.out]⟩
        case measure => simp [intOf]; omega
      · obtain ⟨h1, h2⟩ := even_step x hx hodd
        have H2 := Lib.hid h2
        clear hodd h2
        go_wp2
        go_round
        case rel => exact ⟨n + 1, by omega, by go_num, by rw [HT.out, ← H2.out]⟩
        case measure => simp [intOf]; omega
    · obtain rfl : n = 8 := by omega
      have hcv := HC.out w1
      have hs1 : s.size + u.size ≤ 9223372036854775807 := by have := HS.out; omega
      go_wp2_with fail
      refine (O2.out _).mono ?_
      rintro e w2 ⟨rfl, hb2⟩
      go_wp2_with fail
      refine (O3.out _).mono ?_
      rintro e w3 ⟨rfl, hb3⟩
      go_wp2_with fail
      go_ret
      exact ⟨rfl, bel2 (bel2 (bel2 (bel2 hb0 hb1) ((Below.refl _ w1).alloc (Nat.le_refl _) _)) hb2) hb3⟩
end Go.Proofs.Ytfhohfjepnhfcaa
