/-
  Contract of the program's own test: may a byte not stand?
-/
import Derived.Test.YtnkkompmdngkgaaProg
import Derived.Test.YtnkkompmdngkgaaOwn
import Derived.Test.YtnkkompmdngkgaaSMath
import Derived.Test.YtnkkompmdngkgaaShelf
import Derived.Test.YtnkkompmdngkgaaBuilder
import Derived.WalkKit
import Derived.WalkSpells
import Derived.WalkLawsBesides
import Derived.KernelRfl
import Derived.Laws.CopyOwn
import Derived.Deep.WholeRow
import Derived.Outline
namespace Go.Proofs.Ytnkkompmdngkgaa.S
open Go.RowKit
theorem low_u32 (z : Int) (n : Nat) (h : n < 32) : bits BinOp.and IntKind.u32 (z % 4294967296 / 2 ^ n) 1 = z / 2 ^ n % 2 := by
  have e := Stf.bit_wrap z n 32 h
  have hM : (2 : Int) ^ 32 = 4294967296 := by decide
  rw [hM] at e
  have h0 := Int.emod_nonneg z (b := 4294967296) (by omega)
  have h1 := Int.emod_lt_of_pos z (b := 4294967296) (by omega)
  have hp : (0 : Int) < 2 ^ n := Int.pow_pos (by omega)
  have h2 := Int.ediv_nonneg h0 (Int.le_of_lt hp)
  have h3 : z % 4294967296 / 2 ^ n ≤ z % 4294967296 := Int.ediv_le_self _ h0
  obtain ⟨y, hy⟩ := Int.eq_ofNat_of_zero_le h2
  rw [hy] at e ⊢
  have := u32_and_nat y 1 (by omega) (by omega)
  rw [Nat.and_one_is_mod] at this
  rw [← e]
  exact this
set_option maxHeartbeats 400000 in
theorem may_any (z : Int) (b : UInt8) (w : World) : Calls Try.prog 36 #[.int .u8 (b.toNat : Int), .int .u32 (z % 4294967296)] w fun e w' => e = .returned (.bool (Stf.mns z b)) ∧ w = w' := by
  have hb := b.toNat_lt
  go_enter Try.func36, Try.ntmps36
  go_wp2
  all_goals go_ret
  · exact ⟨ret_bool (Stf.mns_flag z b ‹_›).symm, rfl⟩
  · exact ⟨ret_bool (Stf.mns_mark z b ‹_›).symm, rfl⟩
  · refine ⟨ret_bool ?_, rfl⟩
    rw [Stf.mns_low z b ‹_› ‹_› (by omega), low_u32 z b.toNat (by omega), beq_eq_false_iff_ne.2 ‹¬ (b.toNat : Int) = 126›, beq_eq_false_iff_ne.2 ‹¬ (b.toNat : Int) = 125›]
    rfl
  · refine ⟨ret_bool ?_, rfl⟩
    rw [Stf.mns_high z b ‹_› ‹_› (by omega), beq_eq_false_iff_ne.2 ‹¬ (b.toNat : Int) = 126›, beq_eq_false_iff_ne.2 ‹¬ (b.toNat : Int) = 125›]
    rfl
end Go.Proofs.Ytnkkompmdngkgaa.S
