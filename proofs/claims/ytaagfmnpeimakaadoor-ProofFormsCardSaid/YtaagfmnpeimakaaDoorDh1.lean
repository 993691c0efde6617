/-
  Contracts of the program's digest: what a round makes of three words, which word a step takes, a word turned.
-/
import Derived.Test.YtaagfmnpeimakaaDoorWd
import Derived.Test.YtaagfmnpeimakaaDoorDgMath
import Derived.Test.YtaagfmnpeimakaaDoorMasks
namespace Go.Proofs.YtaagfmnpeimakaaDoor.Dig
theorem mix_0 (i : Nat) (h : i / 16 = 0) (x c d : BitVec 32) : mix i x c d = (x &&& c) ||| ((x ^^^ 4294967295#32) &&& d) := by unfold mix; rw [h]; rfl
theorem mix_1 (i : Nat) (h : i / 16 = 1) (x c d : BitVec 32) : mix i x c d = (x &&& d) ||| (c &&& (d ^^^ 4294967295#32)) := by
  unfold mix
  rw [h]
  show (d &&& x) ||| ((d ^^^ 4294967295#32) &&& c) = _
  rw [BitVec.and_comm d x, BitVec.and_comm _ c]
theorem mix_2 (i : Nat) (h : i / 16 = 2) (x c d : BitVec 32) : mix i x c d = x ^^^ c ^^^ d := by unfold mix; rw [h]; rfl
theorem mix_3 (i : Nat) (h : i / 16 = 3) (x c d : BitVec 32) : mix i x c d = c ^^^ (x ||| (d ^^^ 4294967295#32)) := by unfold mix; rw [h]; rfl
theorem pick_0 (i : Nat) (h : i / 16 = 0) : pick i = i % 16 := by unfold pick; rw [h]; show i = _; omega
theorem pick_1 (i : Nat) (h : i / 16 = 1) : pick i = (5 * i + 1) % 16 := by unfold pick; rw [h]; rfl
theorem pick_2 (i : Nat) (h : i / 16 = 2) : pick i = (3 * i + 5) % 16 := by unfold pick; rw [h]; rfl
theorem pick_3 (i : Nat) (h : i / 16 = 3) : pick i = 7 * i % 16 := by unfold pick; rw [h]; rfl
end Go.Proofs.YtaagfmnpeimakaaDoor.Dig
namespace Go.Proofs.YtaagfmnpeimakaaDoor.Dh
open Go.RowKit
set_option maxRecDepth 100000
theorem w_not' (a : Wrd) : bits .xor .u32 IntKind.u32.max (a.toNat : Int) = ((a ^^^ 4294967295#32).toNat : Int) := by
  rw [BitVec.xor_comm]
  exact w_xor 4294967295#32 a
theorem w_andnot (a b : Wrd) : bits .andNot .u32 (a.toNat : Int) (b.toNat : Int) = ((a &&& (b ^^^ 4294967295#32)).toNat : Int) := by
  have hx : (a &&& ~~~b).toNat < 4294967296 := (a &&& ~~~b).isLt
  have e : a &&& (b ^^^ 4294967295#32) = a &&& ~~~b := by
    rw [← BitVec.xor_allOnes]
    rfl
  rw [e]
  show IntKind.u32.wrap ((BitVec.ofInt 32 (a.toNat : Int) &&& ~~~(BitVec.ofInt 32 (b.toNat : Int))).toNat : Int) = _
  have ha : BitVec.ofInt 32 (a.toNat : Int) = a := by simp
  have hb : BitVec.ofInt 32 (b.toNat : Int) = b := by simp
  rw [ha, hb, IntKind.wrap_u32']
  omega
set_option maxHeartbeats 800000 in
theorem mix_any (r i : Nat) (hr : i / 16 = r) (hi : i < 64) (x c d : Wrd) (w : World) : Calls Tryd.prog 65 #[.int .i64 (r : Int), .int .u32 (x.toNat : Int), .int .u32 (c.toNat : Int), .int .u32 (d.toNat : Int)] w fun e w' => e = .returned (.int .u32 ((Dig.mix i x c d).toNat : Int)) ∧ w' = w := by
  have hway : r = 0 ∨ r = 1 ∨ r = 2 ∨ r = 3 := by omega
  rcases hway with rfl | rfl | rfl | rfl
  · have HR : Hid (bits .or .u32 (bits .and .u32 (x.toNat : Int) (c.toNat : Int)) (bits .and .u32 (bits .xor .u32 IntKind.u32.max (x.toNat : Int)) (d.toNat : Int)) = ((Dig.mix i x c d).toNat : Int)) := Lib.hid (by rw [Dig.mix_0 i hr, w_and, w_not', w_and, w_or])
    generalize (Dig.mix i x c d).toNat = R at *
    go_enter Tryd.func65, Tryd.ntmps65
    go_wp2_with fail
    go_ret
    exact ⟨by rw [HR.out]; rfl, rfl⟩
  · have HR : Hid (bits .or .u32 (bits .and .u32 (x.toNat : Int) (d.toNat : Int)) (bits .andNot .u32 (c.toNat : Int) (d.toNat : Int)) = ((Dig.mix i x c d).toNat : Int)) := Lib.hid (by rw [Dig.mix_1 i hr, w_and, w_andnot, w_or])
    generalize (Dig.mix i x c d).toNat = R at *
    go_enter Tryd.func65, Tryd.ntmps65
    go_wp2_with fail
    go_ret
    exact ⟨by rw [HR.out]; rfl, rfl⟩
  · have HR : Hid (bits .xor .u32 (bits .xor .u32 (x.toNat : Int) (c.toNat : Int)) (d.toNat : Int) = ((Dig.mix i x c d).toNat : Int)) := Lib.hid (by rw [Dig.mix_2 i hr, w_xor, w_xor])
    generalize (Dig.mix i x c d).toNat = R at *
    go_enter Tryd.func65, Tryd.ntmps65
    go_wp2_with fail
    go_ret
    exact ⟨by rw [HR.out]; rfl, rfl⟩
  · have HR : Hid (bits .xor .u32 (c.toNat : Int) (bits .or .u32 (x.toNat : Int) (bits .xor .u32 IntKind.u32.max (d.toNat : Int))) = ((Dig.mix i x c d).toNat : Int)) := Lib.hid (by rw [Dig.mix_3 i hr, w_not', w_or, w_xor])
    generalize (Dig.mix i x c d).toNat = R at *
    go_enter Tryd.func65, Tryd.ntmps65
    go_wp2_with fail
    go_ret
    exact ⟨by rw [HR.out]; rfl, rfl⟩
theorem rot_any (x : Wrd) (t : Nat) (ht : t < 32) (w : World) : Calls Tryd.prog 67 #[.int .u32 (x.toNat : Int), .int .i64 (t : Int)] w fun e w' => e = .returned (.int .u32 ((Dig.rolled x t).toNat : Int)) ∧ w' = w := by
  have h31 : bits .and .u64 (t : Int) 31 = (t : Int) := by
    have := u64_and_nat t 31 (by omega) (by omega)
    rw [show (31 : Nat) = 2 ^ 5 - 1 from rfl, Nat.and_two_pow_sub_one_eq_mod, Nat.mod_eq_of_lt (by omega)] at this
    exact this
  have h32 : IntKind.u64.wrap (32 - (t : Int)) = ((32 - t : Nat) : Int) := by
    show (32 - (t : Int)) % 18446744073709551616 = _
    omega
  have HR : Hid (bits .or .u32 ((x.toNat : Int) * 2 ^ t % 4294967296) ((x.toNat : Int) / 2 ^ (32 - t)) = ((Dig.rolled x t).toNat : Int)) := Lib.hid (by
    have h1 := w_shl x t
    rw [IntKind.wrap_u32'] at h1
    rw [h1, w_shr x (32 - t), w_or]
    rfl)
  generalize (Dig.rolled x t).toNat = R at *
  go_enter Tryd.func67, Tryd.ntmps67
  go_wp2_with fail
  go_ret
  exact ⟨by rw [HR.out]; rfl, rfl⟩
theorem place_any (r i : Nat) (hr : i / 16 = r) (hi : i < 64) (w : World) : Calls Tryd.prog 66 #[.int .i64 (r : Int), .int .i64 (i : Int)] w fun e w' => e = .returned (.int .i64 (Dig.pick i : Int)) ∧ w' = w := by
  have hway : r = 0 ∨ r = 1 ∨ r = 2 ∨ r = 3 := by omega
  rcases hway with rfl | rfl | rfl | rfl
  · rw [Dig.pick_0 i hr]
    go_enter Tryd.func66, Tryd.ntmps66
    go_wp2_with fail
    go_ret
    exact ⟨by simp, rfl⟩
  · rw [Dig.pick_1 i hr]
    have e1 : IntKind.i64.wrap (5 * (i : Int)) = 5 * (i : Int) := IntWalk.i64_in _ ⟨by omega, by omega⟩
    have e2 : IntKind.i64.wrap (5 * (i : Int) + 1) = 5 * (i : Int) + 1 := IntWalk.i64_in _ ⟨by omega, by omega⟩
    go_enter Tryd.func66, Tryd.ntmps66
    go_wp2_with fail
    go_ret
    exact ⟨by simp, rfl⟩
  · rw [Dig.pick_2 i hr]
    have e1 : IntKind.i64.wrap (3 * (i : Int)) = 3 * (i : Int) := IntWalk.i64_in _ ⟨by omega, by omega⟩
    have e2 : IntKind.i64.wrap (3 * (i : Int) + 5) = 3 * (i : Int) + 5 := IntWalk.i64_in _ ⟨by omega, by omega⟩
    go_enter Tryd.func66, Tryd.ntmps66
    go_wp2_with fail
    go_ret
    exact ⟨by simp, rfl⟩
  · rw [Dig.pick_3 i hr]
    have e1 : IntKind.i64.wrap (7 * (i : Int)) = 7 * (i : Int) := IntWalk.i64_in _ ⟨by omega, by omega⟩
    go_enter Tryd.func66, Tryd.ntmps66
    go_wp2_with fail
    go_ret
    exact ⟨by simp, rfl⟩
end Go.Proofs.YtaagfmnpeimakaaDoor.Dh
