/-
  Contracts: what stands in a byte, which codes answer, which heads are good; a head ahead of a body.
-/
import Derived.Test.YtmonoicdejallaaZMath
import Derived.Test.YtmonoicdejallaaText
namespace Go.Proofs.Ytmonoicdejallaa.Z
open Go.RowKit
theorem isByte_any (z : Int) (W : World) : Calls Try.prog 33 #[.int .i64 z] W fun e w' => e = .returned (.bool (Ctl.byte z)) ∧ W = w' := by
  obtain ⟨m, hm⟩ : ∃ m, m = z % 256 := ⟨_, rfl⟩
  have b1 : 0 ≤ m := by omega
  have b2 : m ≤ 255 := by omega
  have hk : Ctl.byte z = (z == m) := by
    unfold Ctl.byte
    rw [Bool.eq_iff_iff]
    simp only [Bool.and_eq_true, decide_eq_true_eq, beq_iff_eq]
    omega
  rw [hk]
  have h0 : z % 256 = m := hm.symm
  clear hk hm
  go_enter Try.func33, Try.ntmps33
  go_wp2_with fail
  go_ret
  exact ⟨rfl, rfl⟩
theorem tmod_resp (c : Int) : (Int.tmod c 2 == 0) = Bap.resp c := by
  unfold Bap.resp
  rw [Bool.eq_iff_iff, beq_iff_eq, beq_iff_eq]
  refine ⟨fun h => ?_, fun h => Int.tmod_eq_zero_of_dvd (by omega)⟩
  have := Int.dvd_of_tmod_eq_zero h
  omega
theorem isResp_any (c i : Int) (W : World) : Calls Try.prog 19 #[.agg #[.int .i64 c, .int .i64 i]] W fun e w' => e = .returned (.bool (Bap.resp c)) ∧ Below W.heap.size W w' := by
  have hr := tmod_resp c
  generalize Bap.resp c = r at *
  go_enter Try.func19, Try.ntmps19
  go_wp2_with fail
  go_ret
  exact ⟨rfl, (Below.refl _ W).alloc (Nat.le_refl _) _⟩
theorem isGood_any (c i : Int) (W : World) : Calls Try.prog 34 #[.agg #[.int .i64 c, .int .i64 i]] W fun e w' => e = .returned (.bool (Bap.gd c i)) ∧ Below W.heap.size W w' := by
  have C := Lib.hid fun W => isByte_any i W
  unfold Bap.gd
  generalize Ctl.byte i = r at *
  by_cases h1 : 1 ≤ c
  · by_cases h2 : c ≤ 8
    · rw [decide_eq_true h1, decide_eq_true h2]
      go_enter Try.func34, Try.ntmps34
      go_wp2_with (refine (C.out _).mono ?_; rintro e w1 ⟨rfl, rfl⟩)
      go_ret
      exact ⟨rfl, (Below.refl _ W).alloc (Nat.le_refl _) _⟩
    · rw [decide_eq_true h1, decide_eq_false h2]
      have h3 : 8 < c := by omega
      clear h2
      go_enter Try.func34, Try.ntmps34
      go_wp2_with fail
      go_ret
      exact ⟨rfl, (Below.refl _ W).alloc (Nat.le_refl _) _⟩
  · rw [decide_eq_false h1]
    have h3 : c < 1 := by omega
    clear h1
    go_enter Try.func34, Try.ntmps34
    go_wp2_with fail
    go_ret
    exact ⟨rfl, (Below.refl _ W).alloc (Nat.le_refl _) _⟩
end Go.Proofs.Ytmonoicdejallaa.Z
