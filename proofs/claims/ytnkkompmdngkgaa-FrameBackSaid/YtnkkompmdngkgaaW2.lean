/-
  Contracts of the document's own sum: the register bit by bit.
-/
import Derived.Test.YtnkkompmdngkgaaW1
namespace Go.Proofs.Ytnkkompmdngkgaa.F
open Go.RowKit
theorem odd_step (x : Nat) (h : x < 65536) (hx : x % 2 = 1) : bits BinOp.and IntKind.i64 (x : Int) 1 = 1 ∧ bits BinOp.xor IntKind.i64 ((x : Int) / 2) 33800 = (Crc.step x : Nat) := by
  constructor
  · have := i64_and_nat x 1 (by omega) (by omega)
    rw [Nat.and_one_is_mod, hx] at this
    exact this
  · have e2 : ((x : Int) / 2) = ((x / 2 : Nat) : Int) := by omega
    have := i64_xor_nat (x / 2) 33800 (by omega) (by omega)
    rw [e2, Crc.step, if_pos hx]
    exact this
theorem even_step (x : Nat) (h : x < 65536) (hx : ¬ x % 2 = 1) : bits BinOp.and IntKind.i64 (x : Int) 1 = 0 ∧ (x : Int) / 2 = (Crc.step x : Nat) := by
  constructor
  · have := i64_and_nat x 1 (by omega) (by omega)
    rw [Nat.and_one_is_mod, show x % 2 = 0 by omega] at this
    exact this
  · rw [Crc.step, if_neg hx]; omega
theorem byte_i64 (c : Nat) (b : UInt8) (hc : c < 65536) : ∃ y : Nat, bits BinOp.xor IntKind.i64 (c : Int) (wrap64 (b.toNat : Int)) = (y : Int) ∧ y < 65536 ∧ Crc.steps 8 y = Crc.byte c b.toNat := by
  have hb := b.toNat_lt
  refine ⟨c ^^^ b.toNat, ?_, Nat.xor_lt_two_pow (n := 16) (by omega) (by omega), rfl⟩
  rw [wrap64_nat _ (by omega), i64_xor_nat _ _ (by omega) (by omega)]
theorem sum_i64 (l : List UInt8) : bits BinOp.xor IntKind.i64 (Crc.reg l : Int) 65535 = (Crc.sum l : Int) := by
  have h := Crc.reg_lt l
  exact i64_xor_nat (Crc.reg l) 65535 (by omega) (by omega)
set_option maxHeartbeats 400000 in
theorem ref_any (s : ByteArray) (w : World) (hs0 : s.size ≤ maxLen) : Calls Try.prog 26 #[.string s] w fun e w' => e = .returned (.int .i64 (Crc.sum s.data.toList)) ∧ w = w' := by
  have hs : s.size ≤ 9223372036854775807 := by unfold maxLen at hs0; omega
  clear hs0
  go_enter Try.func26, Try.ntmps26
  go_wp2
  go_loop [3, 4] (fun c i => ∃ k : Nat, k ≤ s.size ∧ i = .int .i64 k ∧ c = .int .i64 (Crc.reg (s.data.toList.take k) : Nat)) (fun _ i => s.size - (intOf i).toNat)
  case atStart => exact ⟨0, by omega, rfl, rfl⟩
  case round =>
    obtain ⟨k, hk, rfl, rfl⟩ := hrel
    have HR := Crc.reg_lt (s.data.toList.take k)
    by_cases hlt : k < s.size
    · obtain ⟨y, e1, hy, h1⟩ := byte_i64 (Crc.reg (s.data.toList.take k)) s[k] HR
      have HF : Hid (Crc.steps 8 y = Crc.reg (s.data.toList.take (k + 1))) := by
        show Crc.steps 8 y = _
        rw [take_snoc s k hlt, Crc.reg_snoc, ← h1]
      clear h1
      go_wp2
      go_loop [3, 5] (fun x j => ∃ n : Nat, n ≤ 8 ∧ j = .int .i64 n ∧ x = .int .i64 (Crc.steps n y : Nat)) (fun _ j => 8 - (intOf j).toNat)
      case atStart => exact ⟨0, by omega, rfl, rfl⟩
      case round =>
        obtain ⟨n, hn, rfl, rfl⟩ := hrel
        have hx := Crc.steps_lt (n := n) hy
        have HS := Lib.hid (Crc.steps_succ n y)
        generalize hxe : Crc.steps n y = x at *
        have HX := Lib.hid hxe
        clear hxe
        by_cases hlt8 : n < 8
        · by_cases hodd : x % 2 = 1
          · obtain ⟨h1, h2⟩ := odd_step x hx hodd
            clear hodd
            go_wp2
            go_round
            case rel => exact ⟨n + 1, by omega, by go_num, by rw [HS.out]⟩
            case measure => simp [intOf]; omega
          · obtain ⟨h1, h2⟩ := even_step x hx hodd
            have H2 := Lib.hid h2
            clear hodd h2
            go_wp2
            go_round
            case rel => exact ⟨n + 1, by omega, by go_num, by rw [HS.out, ← H2.out]⟩
            case measure => simp [intOf]; omega
        · obtain rfl : n = 8 := by omega
          go_wp2
          go_round
          case rel => exact ⟨k + 1, by omega, by go_num, by rw [← HF.out, HX.out]⟩
          case measure => simp [intOf]; omega
    · obtain rfl : k = s.size := by omega
      have e1 := sum_i64 s.data.toList
      have ht : s.data.toList.take s.size = s.data.toList := List.take_of_length_le (by simp)
      have HT1 := Lib.hid ht
      rw [← ht] at e1
      clear ht
      go_wp2
      go_ret
      exact ⟨ret_int (by rw [HT1.out]), rfl⟩
end Go.Proofs.Ytnkkompmdngkgaa.F
