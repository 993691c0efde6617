/-
  General: a bit that is turned in a byte; which bit of a text a number picks.
-/
import Derived.Test.YtnkkompmdngkgaaBytes
import Derived.Test.YtnkkompmdngkgaaMath2
namespace Go.Proofs.Ytnkkompmdngkgaa
open Go.RowKit
theorem flip_int (b : UInt8) (x : Nat) : bits BinOp.xor IntKind.u8 (b.toNat : Int) (2 ^ (x % 8) % 256) = ((b ^^^ UInt8.ofNat (2 ^ (x % 8))).toNat : Int) := by
  have h := Crc.bit_lt (x % 8) (by omega)
  have e : ((2 : Int) ^ (x % 8) % 256) = ((2 ^ (x % 8) : Nat) : Int) := by
    rw [Int.natCast_pow]
    have : ((2 ^ (x % 8) : Nat) : Int) < 256 := by omega
    rw [Int.natCast_pow] at this
    exact Int.emod_eq_of_lt (by have := Int.natCast_nonneg (2 ^ (x % 8)); rwa [Int.natCast_pow] at this) this
  rw [e, u8_xor_nat _ _ (by have := b.toNat_lt; omega) h, UInt8.toNat_xor]
  congr 2
  simp
  omega
theorem pick_bit (zk : Int) (n : Nat) (h1 : 1 ≤ n) (h : n ≤ 100000) : ∃ x : Nat, wrap64 ((IntKind.u64.wrap zk).tmod (8 * (n : Int))) = (x : Int) ∧ x < 8 * n := by
  have h0 := wrap_u64_nonneg zk
  generalize IntKind.u64.wrap zk = y at *
  have hm : y.tmod (8 * (n : Int)) = y % (8 * (n : Int)) := Int.tmod_eq_emod_of_nonneg h0
  have h2 := Int.emod_nonneg y (b := 8 * (n : Int)) (by omega)
  have h3 := Int.emod_lt_of_pos y (b := 8 * (n : Int)) (by omega)
  refine ⟨(y % (8 * (n : Int))).toNat, ?_, by omega⟩
  rw [hm, IntWalk.wrap64_in _ ⟨by omega, by omega⟩]
  omega
end Go.Proofs.Ytnkkompmdngkgaa
