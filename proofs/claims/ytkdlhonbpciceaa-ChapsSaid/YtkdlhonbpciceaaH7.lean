/-
  Contract of the document's own Unchap.
-/
import Derived.Test.YtkdlhonbpciceaaH5
import Derived.Test.YtkdlhonbpciceaaHigh
import Derived.RegionTactic
import Derived.BigRegion
import Derived.Deep.QuietTactic
import Derived.BigQuiet
import Derived.Deep.DeepCutAuto
namespace Go.Proofs.Ytkdlhonbpciceaa.H
open Go.RowKit
set_option maxRecDepth 100000 in
set_option maxHeartbeats 400000 in
theorem un_short (s : ByteArray) (w : World) (h : s.size < 4) : Calls Try.prog 11 #[.string s] w (MsgPost (Chp.zero, 600) w) := by
  go_enter Try.func11, Try.ntmps11
  go_wp2_with fail
  refine bodyPost_ret (v := .tuple #[.agg #[.int .i64 0, .int .i64 0, .string ⟨#[]⟩, .string ⟨#[]⟩], .int .i64 600]) (by simp [results, Try.results11, go_sem]) rfl ⟨rfl, ?_⟩
  exact (Below.refl _ w).alloc (Nat.le_refl _) _
set_option maxRecDepth 100000 in
set_option maxHeartbeats 400000 in
theorem un_code (s : ByteArray) (x : UInt8) (w : World) (h : 4 ≤ s.size) (hx0 : s[0]'(by omega) = x) (hx : x.toNat < 1 ∨ 4 < x.toNat) : Calls Try.prog 11 #[.string s] w (MsgPost (Chp.zero, 600) w) := by
  have p0 : 0 < s.size := by omega
  have q0 : (0 : Int) < (s.size : Int) := by omega
  by_cases h1 : x.toNat < 1
  · clear hx
    go_enter Try.func11, Try.ntmps11
    go_wp2_with fail
    refine bodyPost_ret (v := .tuple #[.agg #[.int .i64 0, .int .i64 0, .string ⟨#[]⟩, .string ⟨#[]⟩], .int .i64 600]) (by simp [results, Try.results11, go_sem]) rfl ⟨rfl, ?_⟩
    exact (Below.refl _ w).alloc (Nat.le_refl _) _
  · have h2 : 4 < x.toNat := by omega
    clear hx
    go_enter Try.func11, Try.ntmps11
    go_wp2_with fail
    refine bodyPost_ret (v := .tuple #[.agg #[.int .i64 0, .int .i64 0, .string ⟨#[]⟩, .string ⟨#[]⟩], .int .i64 600]) (by simp [results, Try.results11, go_sem]) rfl ⟨rfl, ?_⟩
    exact (Below.refl _ w).alloc (Nat.le_refl _) _
set_option maxRecDepth 100000 in
set_option maxHeartbeats 3200000 in
theorem un_none (s : ByteArray) (x y : UInt8) (k : Nat) (n : List UInt8) (r : Chp.Msg × Int) (w : World) (h : 4 ≤ s.size) (hm : s.size ≤ 9223372036854775807) (hk : (s[2]'(by omega)).toNat * 256 + (s[3]'(by omega)).toNat = k) (hx0 : s[0]'(by omega) = x) (hy0 : s[1]'(by omega) = y) (x1 : 1 ≤ x.toNat) (x2 : x.toNat ≤ 4)
    (e8 : ((x.toNat : Int) == 1) = false) (e9 : ((x.toNat : Int) == 2) = false) (hN : s.extract 4 k = ⟨n.toArray⟩)
    (R1 : Hid (k < 4 ∨ s.size < k → r = (Chp.zero, 600))) (R2 : Hid (4 ≤ k → k ≤ s.size → 253 < (k : Int) - 4 → r = (Chp.zero, 601))) (R3 : Hid (4 ≤ k → k ≤ s.size → (k : Int) - 4 ≤ 253 → r = (((x.toNat : Int), (y.toNat : Int), [], n), 0))) :
    Calls Try.prog 11 #[.string s] w (MsgPost r w) := by
  have hx := high_plus (s[2]'(by omega)) (s[3]'(by omega))
  rw [hk] at hx
  have p0 : 0 < s.size := by omega
  have p1 : 1 < s.size := by omega
  have p2 : 2 < s.size := by omega
  have p3 : 3 < s.size := by omega
  have q0 : (0 : Int) < (s.size : Int) := by omega
  have q1 : (1 : Int) < (s.size : Int) := by omega
  have q2 : (2 : Int) < (s.size : Int) := by omega
  have q3 : (3 : Int) < (s.size : Int) := by omega
  have e1 : wrap64 (x.toNat : Int) = (x.toNat : Int) := wrap64_nat _ (by have := x.toNat_lt; omega)
  have e2 : wrap64 (y.toNat : Int) = (y.toNat : Int) := wrap64_nat _ (by have := y.toNat_lt; omega)
  clear hk
  go_enter Try.func11, Try.ntmps11
  go_wp2_with fail
  go_region
  by_cases c1 : k < 4
  · have e := Lib.hid (R1.out (.inl c1))
    clear hN
    go_wp2_with fail
    refine bodyPost_ret (v := .tuple #[.agg #[.int .i64 0, .int .i64 0, .string ⟨#[]⟩, .string ⟨#[]⟩], .int .i64 600]) (by simp [results, Try.results11, go_sem]) rfl ?_
    rw [e.out]
    exact ⟨rfl, ((Below.refl _ w).alloc (Nat.le_refl _) _).drew⟩
  · have c2 : 4 ≤ k := by omega
    by_cases c3 : s.size < k
    · have e := Lib.hid (R1.out (.inr c3))
      clear hN
      go_wp2_with fail
      refine bodyPost_ret (v := .tuple #[.agg #[.int .i64 0, .int .i64 0, .string ⟨#[]⟩, .string ⟨#[]⟩], .int .i64 600]) (by simp [results, Try.results11, go_sem]) rfl ?_
      rw [e.out]
      exact ⟨rfl, ((Below.refl _ w).alloc (Nat.le_refl _) _).drew⟩
    · have c4 : k ≤ s.size := by omega
      have b1 : (4 : Int) ≤ (k : Int) := by omega
      have b4 : (k : Int) ≤ (s.size : Int) := by omega
      have b5 : wrap64 ((k : Int) - 4) = (k : Int) - 4 := IntWalk.wrap64_in _ ⟨by omega, by omega⟩
      go_wp2_with fail
      go_region
      by_cases c5 : (k : Int) - 4 ≤ 253
      · have e := Lib.hid (R3.out c2 c4 c5)
        go_wp2_with fail
        refine bodyPost_ret (v := .tuple #[.agg #[.int .i64 (x.toNat : Int), .int .i64 (y.toNat : Int), .string ⟨#[]⟩, .string ⟨n.toArray⟩], .int .i64 0]) (by simp [results, Try.results11, go_sem]) rfl ?_
        rw [e.out]
        refine ⟨rfl, ?_⟩
        exact (((Below.refl _ w).alloc (Nat.le_refl _) _).alloc (by simp) _).drew.drew
      · have c6 : 253 < (k : Int) - 4 := by omega
        have e := Lib.hid (R2.out c2 c4 c6)
        go_wp2_with fail
        refine bodyPost_ret (v := .tuple #[.agg #[.int .i64 0, .int .i64 0, .string ⟨#[]⟩, .string ⟨#[]⟩], .int .i64 601]) (by simp [results, Try.results11, go_sem]) rfl ?_
        rw [e.out]
        refine ⟨rfl, ?_⟩
        exact (((Below.refl _ w).alloc (Nat.le_refl _) _).alloc (by simp) _).drew.drew
set_option maxRecDepth 100000 in
set_option maxHeartbeats 3200000 in
theorem un_value (s : ByteArray) (x y : UInt8) (k : Nat) (r : Chp.Msg × Int) (w : World) (h : 4 ≤ s.size) (hm : s.size ≤ 9223372036854775807) (hk : (s[2]'(by omega)).toNat * 256 + (s[3]'(by omega)).toNat = k) (hx0 : s[0]'(by omega) = x) (hy0 : s[1]'(by omega) = y) (x1 : 1 ≤ x.toNat) (x2 : x.toNat ≤ 4)
    (e8 : Hid (((x.toNat : Int) == 1) = true ∨ ((x.toNat : Int) == 1) = false ∧ ((x.toNat : Int) == 2) = true))
    (R1 : Hid (k < 5 ∨ s.size < k → r = (Chp.zero, 600)))
    (R2 : Hid (∀ (_ : 5 ≤ k) (_ : k ≤ s.size), ∃ (z : UInt8) (v n : List UInt8), s[4]'(by omega) = z ∧ (((z.toNat : Int) == 0) = true ∨ (k : Int) - 5 < (z.toNat : Int) → r = (Chp.zero, 600)) ∧
      (((z.toNat : Int) == 0) = false → (z.toNat : Int) ≤ (k : Int) - 5 → s.extract 5 (5 + z.toNat) = ⟨v.toArray⟩ ∧ s.extract (5 + z.toNat) k = ⟨n.toArray⟩ ∧ (253 < (k : Int) - (5 + (z.toNat : Int)) → r = (Chp.zero, 601)) ∧ ((k : Int) - (5 + (z.toNat : Int)) ≤ 253 → r = (((x.toNat : Int), (y.toNat : Int), v, n), 0))))) :
    Calls Try.prog 11 #[.string s] w (MsgPost r w) := by
  have hx := high_plus (s[2]'(by omega)) (s[3]'(by omega))
  rw [hk] at hx
  have p0 : 0 < s.size := by omega
  have p1 : 1 < s.size := by omega
  have p2 : 2 < s.size := by omega
  have p3 : 3 < s.size := by omega
  have q0 : (0 : Int) < (s.size : Int) := by omega
  have q1 : (1 : Int) < (s.size : Int) := by omega
  have q2 : (2 : Int) < (s.size : Int) := by omega
  have q3 : (3 : Int) < (s.size : Int) := by omega
  have e1 : wrap64 (x.toNat : Int) = (x.toNat : Int) := wrap64_nat _ (by have := x.toNat_lt; omega)
  have e2 : wrap64 (y.toNat : Int) = (y.toNat : Int) := wrap64_nat _ (by have := y.toNat_lt; omega)
  clear hk
  go_enter Try.func11, Try.ntmps11
  go_upto_region 3 with (fail)
  go_cut [4] (fun t wx => t = .bool true ∧ w.alloc (.cells #[.int .i64 0, .int .i64 0, .string ⟨#[]⟩, .string ⟨#[]⟩] 23) = wx)
  case first =>
    clear R1 R2
    rcases e8.out with g | ⟨g, g'⟩
    all_goals
      clear e8
      go_wp2_with fail
      go_meet
      case rel => exact ⟨rfl, rfl⟩
  case rest =>
    obtain ⟨rfl, rfl⟩ := hcut
    clear e8
    go_wp2_with fail
    go_region
    by_cases c1 : k < 5
    · have e := Lib.hid (R1.out (.inl c1))
      clear R1 R2
      by_cases c0 : k < 4
      · go_wp2_with fail
        refine bodyPost_ret (v := .tuple #[.agg #[.int .i64 0, .int .i64 0, .string ⟨#[]⟩, .string ⟨#[]⟩], .int .i64 600]) (by simp [results, Try.results11, go_sem]) rfl ?_
        rw [e.out]
        exact ⟨rfl, ((Below.refl _ w).alloc (Nat.le_refl _) _).drew⟩
      · have c2 : 4 ≤ k := by omega
        go_wp2_with fail
        refine bodyPost_ret (v := .tuple #[.agg #[.int .i64 0, .int .i64 0, .string ⟨#[]⟩, .string ⟨#[]⟩], .int .i64 600]) (by simp [results, Try.results11, go_sem]) rfl ?_
        rw [e.out]
        exact ⟨rfl, ((Below.refl _ w).alloc (Nat.le_refl _) _).drew⟩
    · have c2 : 5 ≤ k := by omega
      have c0 : 4 ≤ k := by omega
      by_cases c3 : s.size < k
      · have e := Lib.hid (R1.out (.inr c3))
        clear R1 R2
        go_wp2_with fail
        refine bodyPost_ret (v := .tuple #[.agg #[.int .i64 0, .int .i64 0, .string ⟨#[]⟩, .string ⟨#[]⟩], .int .i64 600]) (by simp [results, Try.results11, go_sem]) rfl ?_
        rw [e.out]
        exact ⟨rfl, ((Below.refl _ w).alloc (Nat.le_refl _) _).drew⟩
      · have c4 : k ≤ s.size := by omega
        obtain ⟨z, v, n, hz0, hA, hB⟩ := R2.out c2 c4
        have p4 : 4 < s.size := by omega
        have q4 : (4 : Int) < (s.size : Int) := by omega
        have e3 : wrap64 (z.toNat : Int) = (z.toNat : Int) := wrap64_nat _ (by have := z.toNat_lt; omega)
        have e5 : wrap64 ((k : Int) - 5) = (k : Int) - 5 := IntWalk.wrap64_in _ ⟨by omega, by omega⟩
        have hlt := z.toNat_lt
        have HA := Lib.hid hA
        have HB := Lib.hid hB
        clear R1 R2 hA hB
        go_wp2_with fail
        go_region
        by_cases z0 : (z.toNat : Int) = 0
        · have z1 : ((z.toNat : Int) == 0) = true := by simpa using z0
          have e := Lib.hid (HA.out (.inl z1))
          clear z0
          go_wp2_with fail
          refine bodyPost_ret (v := .tuple #[.agg #[.int .i64 0, .int .i64 0, .string ⟨#[]⟩, .string ⟨#[]⟩], .int .i64 600]) (by simp [results, Try.results11, go_sem]) rfl ?_
          rw [e.out]
          refine ⟨rfl, ?_⟩
          exact (((Below.refl _ w).alloc (Nat.le_refl _) _).alloc (by simp) _).drew.drew
        · have z1 : ((z.toNat : Int) == 0) = false := by simpa using z0
          clear z0
          by_cases z2 : (k : Int) - 5 < (z.toNat : Int)
          · have e := Lib.hid (HA.out (.inr z2))
            go_wp2_with fail
            refine bodyPost_ret (v := .tuple #[.agg #[.int .i64 0, .int .i64 0, .string ⟨#[]⟩, .string ⟨#[]⟩], .int .i64 600]) (by simp [results, Try.results11, go_sem]) rfl ?_
            rw [e.out]
            refine ⟨rfl, ?_⟩
            exact (((Below.refl _ w).alloc (Nat.le_refl _) _).alloc (by simp) _).drew.drew
          · have z3 : (z.toNat : Int) ≤ (k : Int) - 5 := by omega
            have b4 : (k : Int) ≤ (s.size : Int) := Int.ofNat_le.2 c4
            obtain ⟨hV, hN, r1, r2⟩ := HB.out z1 z3
            have r1 := Lib.hid r1
            have r2 := Lib.hid r2
            clear z2
            by_cases c5 : (k : Int) - (5 + (z.toNat : Int)) ≤ 253
            · have e := Lib.hid (r2.out c5)
              clear r1 r2
              go_wp2_with fail
              refine bodyPost_ret (v := .tuple #[.agg #[.int .i64 (x.toNat : Int), .int .i64 (y.toNat : Int), .string ⟨v.toArray⟩, .string ⟨n.toArray⟩], .int .i64 0]) (by simp [results, Try.results11, go_sem]) rfl ?_
              rw [e.out]
              refine ⟨rfl, ?_⟩
              exact (((Below.refl _ w).alloc (Nat.le_refl _) _).alloc (by simp) _).drew.drew
            · have c6 : 253 < (k : Int) - (5 + (z.toNat : Int)) := Int.not_le.1 c5
              have e := Lib.hid (r1.out c6)
              clear r1 r2 c5
              go_wp2_with fail
              refine bodyPost_ret (v := .tuple #[.agg #[.int .i64 0, .int .i64 0, .string ⟨#[]⟩, .string ⟨#[]⟩], .int .i64 601]) (by simp [results, Try.results11, go_sem]) rfl ?_
              rw [e.out]
              refine ⟨rfl, ?_⟩
              exact (((Below.refl _ w).alloc (Nat.le_refl _) _).alloc (by simp) _).drew.drew
end Go.Proofs.Ytkdlhonbpciceaa.H
