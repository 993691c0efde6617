/-
  Contracts: what stands in a byte, which codes configure, whether a packet holds its own; the document's own two bytes.
-/
import Derived.Test.YtoodhbdgnfmofaaCMath
import Derived.Test.YtoodhbdgnfmofaaBox
namespace Go.Proofs.Ytoodhbdgnfmofaa.C
open Go.RowKit
theorem isByte_any (z : Int) (W : World) : Calls Try.prog 20 #[.int .i64 z] W fun e w' => e = .returned (.bool (Ctl.byte z)) ∧ W = w' := by
  obtain ⟨m, hm⟩ : ∃ m, m = z % 256 := ⟨_, rfl⟩
  have b1 : 0 ≤ m := by omega
  have b2 : m ≤ 255 := by omega
  have hk : Ctl.byte z = (z == m) := by
    unfold Ctl.byte
    rw [Bool.eq_iff_iff]
    simp only [Bool.and_eq_true, decide_eq_true_eq, beq_iff_eq]
    omega
  rw [hk]
  have h0 : z % 256 = m := hm.symm
  clear hk hm
  go_enter Try.func20, Try.ntmps20
  go_wp2_with fail
  go_ret
  exact ⟨rfl, rfl⟩
theorem configures_any (c : Int) (W : World) : Calls Try.prog 31 #[.int .i64 c] W fun e w' => e = .returned (.bool (Ctl.conf c)) ∧ W = w' := by
  by_cases h1 : 1 ≤ c
  · by_cases h2 : c ≤ 4
    · have hc : Ctl.conf c = true := by unfold Ctl.conf; simp [h1, h2]
      rw [hc]
      clear hc
      go_enter Try.func31, Try.ntmps31
      go_wp2_with fail
      go_ret
      exact ⟨rfl, rfl⟩
    · have hc : Ctl.conf c = false := by unfold Ctl.conf; simp [h2]
      rw [hc]
      clear hc
      go_enter Try.func31, Try.ntmps31
      go_wp2_with fail
      go_ret
      exact ⟨rfl, rfl⟩
  · have hc : Ctl.conf c = false := by unfold Ctl.conf; simp [h1]
    rw [hc]
    clear hc
    go_enter Try.func31, Try.ntmps31
    go_wp2_with fail
    go_ret
    exact ⟨rfl, rfl⟩
theorem own_any (c i : Int) (q : Option Addr) (cap : Nat) (os : List Opt.Op) (d : List UInt8) (W : World) (hl : os.length ≤ 4611686018427387904) :
    Calls Try.prog 22 #[.agg #[.int .i64 c, .int .i64 i, .slice q os.length cap, .string ⟨d.toArray⟩]] W fun e w' => e = .returned (.bool (Ctl.own (c, i, os, d))) ∧ Below W.heap.size W w' := by
  have C := fun W => configures_any c W
  unfold Ctl.own
  cases hc : Ctl.conf c
  · rw [hc] at C
    have C := Lib.hid C
    have e : ((os.length : Int) == 0) = os.isEmpty := by cases os <;> simp; omega
    dsimp only
    rw [if_neg (by simp)]
    generalize os.isEmpty = r at *
    generalize os.length = n at *
    clear hc
    go_enter Try.func22, Try.ntmps22
    go_wp2_with (refine (C.out _).mono ?_; rintro e w1 ⟨rfl, rfl⟩)
    go_ret
    exact ⟨rfl, (Below.refl _ W).alloc (Nat.le_refl _) _⟩
  · rw [hc] at C
    have C := Lib.hid C
    dsimp only
    rw [if_pos rfl]
    generalize os.length = n at *
    clear hc
    go_enter Try.func22, Try.ntmps22
    go_wp2_with (refine (C.out _).mono ?_; rintro e w1 ⟨rfl, rfl⟩)
    go_ret
    exact ⟨rfl, (Below.refl _ W).alloc (Nat.le_refl _) _⟩
/-- The high byte, the low byte. -/
def two (n : Nat) : List UInt8 := [UInt8.ofNat (n / 256), UInt8.ofNat (n % 256)]
theorem two_cells (n : Nat) (h : n < 65536) : (#[Value.int .u8 ((n : Int) / 256), Value.int .u8 ((n : Int) % 256)] : Array Value) = (Lib.byteCells (two n)).toArray := by
  have h1 : (UInt8.ofNat (n / 256)).toNat = n / 256 := by simp; omega
  simp only [two, Lib.byteCells, List.map_cons, List.map_nil, h1]
  simp
set_option maxHeartbeats 400000 in
theorem two_any (n : Nat) (w : World) (hn : n < 65536) : Calls Try.prog 23 #[.int .i64 n] w fun e w' => e = .returned (.string ⟨(two n).toArray⟩) ∧ Below w.heap.size w w' := by
  have hc := conv_new w (two n) _ (two_cells n hn)
  have hl : (two n).length = 2 := rfl
  rw [hl] at hc
  clear hl
  obtain ⟨q, eq⟩ : ∃ q : Nat, q = n / 256 := ⟨_, rfl⟩
  obtain ⟨m, em⟩ : ∃ m : Nat, m = n % 256 := ⟨_, rfl⟩
  have hd : ((n : Int) / 256) = (q : Int) := by omega
  have hm : ((n : Int) % 256) = (m : Int) := by omega
  have a1 := and255 q (by omega)
  have a2 := and255 n hn
  have e1 : q % 256 = q := by omega
  rw [e1] at a1
  rw [← em] at a2
  rw [hd, hm] at hc
  have hq : q < 256 := by omega
  have hm2 : m < 256 := by omega
  clear eq em e1 hm
  go_enter Try.func23, Try.ntmps23
  go_wp2
  go_ret
  exact ⟨rfl, (Below.refl _ w).alloc (Nat.le_refl _) _⟩
end Go.Proofs.Ytoodhbdgnfmofaa.C
