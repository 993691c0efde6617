/-
  Contracts: which protocols there are; what is wrong with a frame; a protocol's two bytes; the program's and the document's own.
-/
import Derived.Test.YtnkkompmdngkgaaNum
import Derived.Test.YtnkkompmdngkgaaRMath
namespace Go.Proofs.Ytnkkompmdngkgaa.R
open Go.RowKit
theorem in_and (n : Nat) (h : n < 65536) : bits BinOp.and IntKind.i64 (n : Int) 257 = ((n &&& 257 : Nat) : Int) := i64_and_nat n 257 (by omega) (by omega)
theorem in_and1 (n : Nat) (h : n < 65536) : bits BinOp.and IntKind.i64 (n : Int) 1 = ((n % 2 : Nat) : Int) := by
  have := i64_and_nat n 1 (by omega) (by omega)
  rw [Nat.and_one_is_mod] at this
  exact this
set_option maxHeartbeats 400000 in
theorem isProto_any (z : Int) (w : World) : Calls Try.prog 35 #[.int .i64 z] w fun e w' => e = .returned (.bool (Frm.good z)) ∧ w = w' := by
  by_cases h1 : 1 ≤ z
  · by_cases h2 : z ≤ 65535
    · obtain ⟨n, rfl⟩ : ∃ n : Nat, z = n := ⟨z.toNat, by omega⟩
      have ha := in_and n (by omega)
      have hg : Frm.good n = decide (((n &&& 257 : Nat) : Int) = 1) := by
        rw [Bool.eq_iff_iff, Frm.good_iff, decide_eq_true_iff]
        have := Frm.and257 n
        omega
      have hq : (((n &&& 257 : Nat) : Int) == 1) = decide (((n &&& 257 : Nat) : Int) = 1) := by rw [Bool.eq_iff_iff]; simp
      rw [hg]
      clear hg
      generalize (n &&& 257) = q at *
      go_enter Try.func35, Try.ntmps35
      go_wp2_with fail
      go_ret
      exact ⟨rfl, rfl⟩
    · have hg : Frm.good z = false := by unfold Frm.good; simp; omega
      rw [hg]
      clear hg
      go_enter Try.func35, Try.ntmps35
      go_wp2_with fail
      go_ret
      exact ⟨rfl, rfl⟩
  · have hg : Frm.good z = false := by unfold Frm.good; simp; omega
    rw [hg]
    clear hg
    go_enter Try.func35, Try.ntmps35
    go_wp2_with fail
    go_ret
    exact ⟨rfl, rfl⟩
set_option maxHeartbeats 400000 in
theorem protoMay_any (z : Int) (w : World) : Calls Try.prog 24 #[.int .i64 z] w fun e w' => e = .returned (.bool (Frm.good z)) ∧ w = w' := by
  by_cases h1 : 1 ≤ z
  · by_cases h2 : z ≤ 65535
    · obtain ⟨n, rfl⟩ : ∃ n : Nat, z = n := ⟨z.toNat, by omega⟩
      have ha := in_and1 n (by omega)
      obtain ⟨q, eq⟩ : ∃ q : Nat, q = n / 256 := ⟨_, rfl⟩
      have hd : ((n : Int) / 256) = (q : Int) := by omega
      have hb := in_and1 q (by omega)
      have hg : Frm.good n = (decide (n % 2 = 1) && decide (q % 2 = 0)) := by
        rw [Bool.eq_iff_iff, Frm.good_iff, Bool.and_eq_true, decide_eq_true_iff, decide_eq_true_iff]
        omega
      rw [hg]
      clear hg eq
      by_cases h3 : n % 2 = 1
      · rw [h3] at ha
        by_cases h4 : q % 2 = 0
        · rw [h4] at hb
          go_enter Try.func24, Try.ntmps24
          go_wp2_with fail
          go_ret
          exact ⟨ret_bool (by simp [h3, h4]), rfl⟩
        · have h5 : q % 2 = 1 := by omega
          rw [h5] at hb
          clear h4
          go_enter Try.func24, Try.ntmps24
          go_wp2_with fail
          go_ret
          exact ⟨ret_bool (by simp [h3, h5]), rfl⟩
      · have h5 : n % 2 = 0 := by omega
        rw [h5] at ha
        clear h3 hb
        go_enter Try.func24, Try.ntmps24
        go_wp2_with fail
        go_ret
        exact ⟨ret_bool (by simp [h5]), rfl⟩
    · have hg : Frm.good z = false := by unfold Frm.good; simp; omega
      rw [hg]
      clear hg
      go_enter Try.func24, Try.ntmps24
      go_wp2_with fail
      go_ret
      exact ⟨rfl, rfl⟩
  · have hg : Frm.good z = false := by unfold Frm.good; simp; omega
    rw [hg]
    clear hg
    go_enter Try.func24, Try.ntmps24
    go_wp2_with fail
    go_ret
    exact ⟨rfl, rfl⟩
set_option maxHeartbeats 400000 in
theorem judge_any (z : Int) (s : ByteArray) (w : World) (hs : s.size ≤ maxLen) : Calls Try.prog 20 #[.agg #[.int .i64 z, .string s]] w fun e w' => e = .returned (.int .i64 (Frm.code z s.size)) ∧ Below w.heap.size w w' := by
  have P := fun w => isProto_any z w
  unfold maxLen at hs
  rcases Frm.code_ways z s.size with ⟨h1, h2⟩ | ⟨h1, h3, h2⟩ | ⟨h1, h3, h2⟩
  · rw [h2]
    rw [h1] at P
    have P := Lib.hid P
    clear h1 h2
    go_enter Try.func20, Try.ntmps20
    go_wp2_with fail
    refine (P.out _).mono ?_
    rintro e w1 ⟨rfl, rfl⟩
    go_wp2_with fail
    go_ret
    exact ⟨rfl, (Below.refl _ _).alloc (Nat.le_refl _) _⟩
  · rw [h2]
    rw [h1] at P
    have P := Lib.hid P
    clear h1 h2
    go_enter Try.func20, Try.ntmps20
    go_wp2_with fail
    refine (P.out _).mono ?_
    rintro e w1 ⟨rfl, rfl⟩
    go_wp2_with fail
    go_ret
    exact ⟨rfl, (Below.refl _ _).alloc (Nat.le_refl _) _⟩
  · rw [h2]
    rw [h1] at P
    have P := Lib.hid P
    clear h1 h2
    go_enter Try.func20, Try.ntmps20
    go_wp2_with fail
    refine (P.out _).mono ?_
    rintro e w1 ⟨rfl, rfl⟩
    go_wp2_with fail
    go_ret
    exact ⟨rfl, (Below.refl _ _).alloc (Nat.le_refl _) _⟩
theorem two_cells (n : Nat) (h : n < 65536) : (#[Value.int .u8 ((n : Int) / 256), Value.int .u8 ((n : Int) % 256)] : Array Value) = (Lib.byteCells (Frm.two n)).toArray := by
  have h1 : (UInt8.ofNat (n / 256)).toNat = n / 256 := by simp; omega
  simp only [Frm.two, Lib.byteCells, List.map_cons, List.map_nil, h1]
  simp
set_option maxHeartbeats 400000 in
theorem wire_any (n : Nat) (w : World) (hn : n < 65536) : Calls Try.prog 21 #[.int .i64 n] w fun e w' => e = .returned (.string ⟨(Frm.two n).toArray⟩) ∧ Below w.heap.size w w' := by
  have hc := conv_new w (Frm.two n) _ (two_cells n hn)
  have hl : (Frm.two n).length = 2 := rfl
  rw [hl] at hc
  clear hl
  go_enter Try.func21, Try.ntmps21
  go_wp2
  go_ret
  exact ⟨rfl, (Below.refl _ w).alloc (Nat.le_refl _) _⟩
set_option maxHeartbeats 400000 in
theorem two_any (n : Nat) (w : World) (hn : n < 65536) : Calls Try.prog 25 #[.int .i64 n] w fun e w' => e = .returned (.string ⟨(Frm.two n).toArray⟩) ∧ Below w.heap.size w w' := by
  have hc := conv_new w (Frm.two n) _ (two_cells n hn)
  have hl : (Frm.two n).length = 2 := rfl
  rw [hl] at hc
  clear hl
  obtain ⟨q, eq⟩ : ∃ q : Nat, q = n / 256 := ⟨_, rfl⟩
  obtain ⟨m, em⟩ : ∃ m : Nat, m = n % 256 := ⟨_, rfl⟩
  have hd : ((n : Int) / 256) = (q : Int) := by omega
  have hm : ((n : Int) % 256) = (m : Int) := by omega
  have a1 := and255 q (by omega)
  have a2 := and255 n hn
  have e1 : q % 256 = q := by omega
  rw [e1] at a1
  rw [← em] at a2
  rw [hd, hm] at hc
  have hq : q < 256 := by omega
  have hm2 : m < 256 := by omega
  clear eq em e1 hm
  go_enter Try.func25, Try.ntmps25
  go_wp2
  go_ret
  exact ⟨rfl, (Below.refl _ w).alloc (Nat.le_refl _) _⟩
end Go.Proofs.Ytnkkompmdngkgaa.R
