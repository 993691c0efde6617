/-
  The walks of the document's own Unmp.
-/
import Derived.Test.YtlolnbmdjnnkjaaD4
import Derived.RegionTactic
import Derived.BigRegion
namespace Go.Proofs.Ytlolnbmdjnnkjaa.D
open Go.RowKit
set_option maxRecDepth 100000 in
set_option maxHeartbeats 400000 in
theorem un_few_s (s : ByteArray) (w : World) (h : s.size < 2) : Calls Try.prog 10 #[.string s, .bool true] w fun r w' => r = .returned (.tuple #[fg false false 0 ⟨#[]⟩, .int .i64 800]) ∧ Below w.heap.size w w' := by
  have hn : (s.size : Int) < 2 := by omega
  go_enter Try.func10, Try.ntmps10
  go_wp2_with fail
  refine bodyPost_ret (v := .tuple #[fg false false 0 ⟨#[]⟩, .int .i64 800]) (by simp [results, Try.results10, go_sem]) rfl ⟨rfl, ?_⟩
  exact (Below.refl _ w).alloc (Nat.le_refl _) _
set_option maxRecDepth 100000 in
set_option maxHeartbeats 400000 in
theorem un_few_l (s : ByteArray) (w : World) (h : s.size < 4) : Calls Try.prog 10 #[.string s, .bool false] w fun r w' => r = .returned (.tuple #[fg false false 0 ⟨#[]⟩, .int .i64 800]) ∧ Below w.heap.size w w' := by
  have hn : (s.size : Int) < 4 := by omega
  go_enter Try.func10, Try.ntmps10
  go_wp2_with fail
  refine bodyPost_ret (v := .tuple #[fg false false 0 ⟨#[]⟩, .int .i64 800]) (by simp [results, Try.results10, go_sem]) rfl ⟨rfl, ?_⟩
  exact (Below.refl _ w).alloc (Nat.le_refl _) _
set_option maxRecDepth 100000 in
set_option maxHeartbeats 400000 in
theorem un_bad_s (s : ByteArray) (x : UInt8) (m : Int) (w : World) (h : 2 ≤ s.size) (hx0 : s[0]'(by omega) = x) (a1 : bits BinOp.and .u8 (x.toNat : Int) 48 = m) (f1 : (m != 0) = true) :
    Calls Try.prog 10 #[.string s, .bool true] w fun r w' => r = .returned (.tuple #[fg false false 0 ⟨#[]⟩, .int .i64 800]) ∧ Below w.heap.size w w' := by
  have hn : (2 : Int) ≤ (s.size : Int) := by omega
  have p0 : 0 < s.size := by omega
  have q0 : (0 : Int) < (s.size : Int) := by omega
  go_enter Try.func10, Try.ntmps10
  go_wp2_with fail
  refine bodyPost_ret (v := .tuple #[fg false false 0 ⟨#[]⟩, .int .i64 800]) (by simp [results, Try.results10, go_sem]) rfl ⟨rfl, ?_⟩
  exact (Below.refl _ w).alloc (Nat.le_refl _) _
set_option maxRecDepth 100000 in
set_option maxHeartbeats 400000 in
theorem un_bad_l (s : ByteArray) (x : UInt8) (m : Int) (w : World) (h : 4 ≤ s.size) (hx0 : s[0]'(by omega) = x) (a1 : bits BinOp.and .u8 (x.toNat : Int) 63 = m) (f1 : (m != 0) = true) :
    Calls Try.prog 10 #[.string s, .bool false] w fun r w' => r = .returned (.tuple #[fg false false 0 ⟨#[]⟩, .int .i64 800]) ∧ Below w.heap.size w w' := by
  have hn : (4 : Int) ≤ (s.size : Int) := by omega
  have p0 : 0 < s.size := by omega
  have q0 : (0 : Int) < (s.size : Int) := by omega
  go_enter Try.func10, Try.ntmps10
  go_wp2_with fail
  refine bodyPost_ret (v := .tuple #[fg false false 0 ⟨#[]⟩, .int .i64 800]) (by simp [results, Try.results10, go_sem]) rfl ⟨rfl, ?_⟩
  exact (Below.refl _ w).alloc (Nat.le_refl _) _
set_option maxRecDepth 100000 in
set_option maxHeartbeats 400000 in
theorem un_over_s (s : ByteArray) (x : UInt8) (m : Int) (w : World) (h : 2 ≤ s.size) (hx0 : s[0]'(by omega) = x) (a1 : bits BinOp.and .u8 (x.toNat : Int) 48 = m) (f1 : (m != 0) = false) (hl : 2048 < (s.size : Int) - 2) (hm : s.size ≤ 9223372036854775807) :
    Calls Try.prog 10 #[.string s, .bool true] w fun r w' => r = .returned (.tuple #[fg false false 0 ⟨#[]⟩, .int .i64 801]) ∧ Below w.heap.size w w' := by
  have hn : (2 : Int) ≤ (s.size : Int) := by omega
  have p0 : 0 < s.size := by omega
  have q0 : (0 : Int) < (s.size : Int) := by omega
  have e5 : wrap64 ((s.size : Int) - 2) = (s.size : Int) - 2 := IntWalk.wrap64_in _ ⟨by omega, by omega⟩
  go_enter Try.func10, Try.ntmps10
  go_wp2_with fail
  refine bodyPost_ret (v := .tuple #[fg false false 0 ⟨#[]⟩, .int .i64 801]) (by simp [results, Try.results10, go_sem]) rfl ⟨rfl, ?_⟩
  exact (Below.refl _ w).alloc (Nat.le_refl _) _
set_option maxRecDepth 100000 in
set_option maxHeartbeats 400000 in
theorem un_over_l (s : ByteArray) (x : UInt8) (m : Int) (w : World) (h : 4 ≤ s.size) (hx0 : s[0]'(by omega) = x) (a1 : bits BinOp.and .u8 (x.toNat : Int) 63 = m) (f1 : (m != 0) = false) (hl : 2048 < (s.size : Int) - 4) (hm : s.size ≤ 9223372036854775807) :
    Calls Try.prog 10 #[.string s, .bool false] w fun r w' => r = .returned (.tuple #[fg false false 0 ⟨#[]⟩, .int .i64 801]) ∧ Below w.heap.size w w' := by
  have hn : (4 : Int) ≤ (s.size : Int) := by omega
  have p0 : 0 < s.size := by omega
  have q0 : (0 : Int) < (s.size : Int) := by omega
  have e5 : wrap64 ((s.size : Int) - 4) = (s.size : Int) - 4 := IntWalk.wrap64_in _ ⟨by omega, by omega⟩
  go_enter Try.func10, Try.ntmps10
  go_wp2_with fail
  refine bodyPost_ret (v := .tuple #[fg false false 0 ⟨#[]⟩, .int .i64 801]) (by simp [results, Try.results10, go_sem]) rfl ⟨rfl, ?_⟩
  exact (Below.refl _ w).alloc (Nat.le_refl _) _
set_option maxRecDepth 100000 in
set_option maxHeartbeats 1600000 in
theorem un_good_s (s T : ByteArray) (x y : UInt8) (m c n y1 y2 : Int) (b1 b2 : Bool) (w : World) (h : 2 ≤ s.size) (hx0 : s[0]'(by omega) = x) (hy0 : s[1]'(by omega) = y) (a1 : bits BinOp.and .u8 (x.toNat : Int) 48 = m) (f1 : (m != 0) = false) (hl : (s.size : Int) - 2 ≤ 2048)
    (a2 : bits BinOp.and .u8 (x.toNat : Int) 128 = y1) (f2 : (y1 == 128) = b1) (a3 : bits BinOp.and .u8 (x.toNat : Int) 64 = y2) (f3 : (y2 == 64) = b2) (hT : s.extract 2 s.size = T) (a4 : bits BinOp.and .u8 (x.toNat : Int) 15 = c) (hc : 0 ≤ c ∧ c ≤ 15) (a5 : bits BinOp.or .i64 (c * 256) (y.toNat : Int) = n) :
    Calls Try.prog 10 #[.string s, .bool true] w fun r w' => r = .returned (.tuple #[fg b1 b2 n T, .int .i64 0]) ∧ Below w.heap.size w w' := by
  have hn : (2 : Int) ≤ (s.size : Int) := by omega
  have p0 : 0 < s.size := by omega
  have p1 : 1 < s.size := by omega
  have q0 : (0 : Int) < (s.size : Int) := by omega
  have q1 : (1 : Int) < (s.size : Int) := by omega
  have e5 : wrap64 ((s.size : Int) - 2) = (s.size : Int) - 2 := IntWalk.wrap64_in _ ⟨by omega, by omega⟩
  have e6 : wrap64 c = c := IntWalk.wrap64_in _ ⟨by omega, by omega⟩
  have e7 : wrap64 (c * 256) = c * 256 := IntWalk.wrap64_in _ ⟨by omega, by omega⟩
  have e8 : wrap64 (y.toNat : Int) = (y.toNat : Int) := wrap64_nat _ (by have := y.toNat_lt; omega)
  clear hc
  go_enter Try.func10, Try.ntmps10
  go_wp2_with fail
  go_region
  go_wp2_with fail
  go_region
  go_wp2_with fail
  refine bodyPost_ret (v := .tuple #[fg b1 b2 n T, .int .i64 0]) (by simp [results, Try.results10, go_sem]) rfl ⟨rfl, ?_⟩
  exact (((Below.refl _ w).alloc (Nat.le_refl _) _).alloc (by simp) _).drew.drew
end Go.Proofs.Ytlolnbmdjnnkjaa.D
