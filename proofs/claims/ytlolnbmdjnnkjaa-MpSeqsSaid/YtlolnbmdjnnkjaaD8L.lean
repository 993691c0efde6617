/-
  The walk of the document's own Unmp, long heads, to the end.
-/
import Derived.Test.YtlolnbmdjnnkjaaD8
import Derived.StillTailTactics
namespace Go.Proofs.Ytlolnbmdjnnkjaa.D
open Go.RowKit
theorem wrap_hi (y : UInt8) : wrap64 ((y.toNat : Int) * 65536) = (y.toNat : Int) * 65536 := by
  have h := y.toNat_lt
  generalize y.toNat = n at h
  have e : (n : Int) * 65536 = ((n * 65536 : Nat) : Int) := rfl
  rw [e]
  exact IntWalk.wrap64_in _ ⟨by omega, by omega⟩
theorem wrap_mid (y : UInt8) : wrap64 ((y.toNat : Int) * 256) = (y.toNat : Int) * 256 := by
  have h := y.toNat_lt
  generalize y.toNat = n at h
  have e : (n : Int) * 256 = ((n * 256 : Nat) : Int) := rfl
  rw [e]
  exact wrap64_nat _ (by omega)
set_option maxRecDepth 100000 in
set_option maxHeartbeats 1600000 in
theorem un_good_l (s T : ByteArray) (x y z u : UInt8) (m k n y1 y2 : Int) (b1 b2 : Bool) (w : World) (h : 4 ≤ s.size) (hx0 : s[0]'(by omega) = x) (hy0 : s[1]'(by omega) = y) (hz0 : s[2]'(by omega) = z) (hu0 : s[3]'(by omega) = u) (a1 : bits BinOp.and .u8 (x.toNat : Int) 63 = m) (f1 : (m != 0) = false) (hl : (s.size : Int) - 4 ≤ 2048)
    (a2 : bits BinOp.and .u8 (x.toNat : Int) 128 = y1) (f2 : (y1 == 128) = b1) (a3 : bits BinOp.and .u8 (x.toNat : Int) 64 = y2) (f3 : (y2 == 64) = b2) (hT : s.extract 4 s.size = T) (a4 : bits BinOp.or .i64 ((y.toNat : Int) * 65536) ((z.toNat : Int) * 256) = k) (a5 : bits BinOp.or .i64 k (u.toNat : Int) = n) :
    Calls Try.prog 10 #[.string s, .bool false] w fun r w' => r = .returned (.tuple #[fg b1 b2 n T, .int .i64 0]) ∧ Below w.heap.size w w' := by
  have hn : (4 : Int) ≤ (s.size : Int) := by omega
  have p0 : 0 < s.size := by omega
  have p1 : 1 < s.size := by omega
  have p2 : 2 < s.size := by omega
  have p3 : 3 < s.size := by omega
  have q0 : (0 : Int) < (s.size : Int) := by omega
  have q1 : (1 : Int) < (s.size : Int) := by omega
  have q2 : (2 : Int) < (s.size : Int) := by omega
  have q3 : (3 : Int) < (s.size : Int) := by omega
  have e5 : wrap64 ((s.size : Int) - 4) = (s.size : Int) - 4 := IntWalk.wrap64_in _ ⟨by omega, by omega⟩
  have by' := y.toNat_lt
  have bz := z.toNat_lt
  have bu := u.toNat_lt
  have e6 : wrap64 (y.toNat : Int) = (y.toNat : Int) := wrap64_nat _ (by omega)
  have e7 : wrap64 (z.toNat : Int) = (z.toNat : Int) := wrap64_nat _ (by omega)
  have e8 : wrap64 (u.toNat : Int) = (u.toNat : Int) := wrap64_nat _ (by omega)
  have e9 := wrap_hi y
  have e10 := wrap_mid z
  clear by' bz bu
  go_enter Try.func10, Try.ntmps10
  go_wp2_with fail
  go_region
  go_wp2_with fail
  go_still_tail 14, (by kernel_rfl)
  change wpList _ _ _ _ _ (World.drew _)
  go_wp2_with fail
  refine bodyPost_ret (v := .tuple #[fg b1 b2 n T, .int .i64 0]) (by simp [results, Try.results10, go_sem]) rfl ⟨rfl, ?_⟩
  exact (((Below.refl _ w).alloc (Nat.le_refl _) _).alloc (by simp) _).drew.drew
end Go.Proofs.Ytlolnbmdjnnkjaa.D
