/-
  General: the place of the first in a list that a test takes; -1: none. The library's IndexFunc at integers.
-/
import Derived.Test.YtcljipgnegahhaaInts
import Derived.Shelf.RegionOpenPlain
namespace Go.Proofs.Ytcljipgnegahhaa
open Go.RowKit
def first {α : Type} (p : α → Bool) (os : List α) : Int := if os.findIdx p < os.length then (os.findIdx p : Nat) else -1
theorem first_hit {α : Type} (p : α → Bool) (os : List α) (k : Nat) (h : k < os.length) (e : p os[k] = true) (hm : ∀ j (h : j < os.length), j < k → p os[j] = false) : first p os = k := by
  have e : os.findIdx p = k := by
    rw [List.findIdx_eq h]
    exact ⟨e, fun j hj => hm j (by omega) hj⟩
  unfold first
  rw [e, if_pos h]
theorem first_miss {α : Type} (p : α → Bool) (os : List α) (hm : ∀ j (h : j < os.length), p os[j] = false) : first p os = -1 := by
  unfold first
  rw [if_neg]
  intro h
  have := List.findIdx_getElem (p := p) (xs := os) (w := h)
  rw [hm] at this
  cases this
theorem first_any {α : Type} (p : α → Bool) (os : List α) : decide (0 ≤ first p os) = os.any p := by
  unfold first
  split
  · rename_i h
    have h2 := List.findIdx_getElem (p := p) (xs := os) (w := h)
    rw [List.any_eq_true.2 ⟨_, List.getElem_mem h, h2⟩, decide_eq_true (by omega)]
  · rename_i h
    have h2 := List.findIdx_eq_length.1 (Nat.le_antisymm (List.findIdx_le_length (p := p) (xs := os)) (by omega))
    rw [List.any_eq_false.2 fun x hx => by rw [h2 x hx]; simp]
    rfl
set_option maxHeartbeats 800000 in
theorem indexI_any (g : Nat) (lb : Array Value) (p : Int → Bool) (v : Value) (os : List Int) (w : World) (hr : ReadsI w v os) (hl : os.length ≤ 4611686018427387904)
    (eg : ∀ args w, (callFunc g args).run Try.prog w = .ok (.enter g args) w)
    (hp : Hid (∀ (W : World) (o : Int), Below w.heap.size w W → o ∈ os → Calls Try.prog g (#[.int .i64 o] ++ lb) W fun e w' => e = .returned (.bool (p o)) ∧ Below w.heap.size w w')) :
    Calls Try.prog 20 #[v, .func (.func g) #[] lb] w fun e w' => e = .returned (.int .i64 (first p os)) ∧ Below w.heap.size w w' := by
  obtain ⟨q, cap, b, off, rfl, _, _, hi, hc⟩ := hr.at
  have HI := Lib.hid hi
  have HC := Lib.hid hc
  clear hi hc hr
  go_enter Try.func20, Try.ntmps20
  go_wp2_with fail
  go_loopw [5, 8] (fun _ s8 wr => ∃ kk : Nat, kk ≤ os.length ∧ s8 = .int .i64 kk ∧ Below w.heap.size w wr ∧ Hid (∀ j (h : j < os.length), j < kk → p os[j] = false)) (fun _ i _ => os.length - (intOf i).toNat)
  case atStart => exact ⟨0, Nat.zero_le _, rfl, Below.refl _ w, Lib.hid fun j _ hj => absurd hj (Nat.not_lt_zero _)⟩
  case round =>
    obtain ⟨kk, hkk, rfl, hb, HA⟩ := hrel
    have HB := Lib.hid hb
    clear hb
    by_cases hlt : kk < os.length
    · have hi := HI.out kk hlt
      have c0 := HC.out kk hlt
      rw [← HB.out.cell (block_lt_of_cell c0)] at c0
      have hcall := hp.out wr os[kk] HB.out (List.getElem_mem hlt)
      have HT : Hid (p os[kk] = true → first p os = kk) := Lib.hid fun e => first_hit p os kk hlt e HA.out
      have HF : Hid (p os[kk] = false → ∀ j (h : j < os.length), j < kk + 1 → p os[j] = false) := Lib.hid fun e j h hj => by
        by_cases q : j = kk
        · subst q; exact e
        · exact HA.out j h (by omega)
      generalize os[kk] = o at *
      obtain ⟨o8, ho8⟩ : ∃ o8, o8 = off + kk := ⟨_, rfl⟩
      rw [← ho8] at hi c0
      clear ho8
      cases hq : p o
      · rw [hq] at hcall
        have HF2 := Lib.hid (HF.out hq)
        clear hq HT HF
        have hcall := Lib.hid hcall
        go_wp2_with (go_at_fn g; refine hcall.out.mono ?_; rintro e w' ⟨rfl, hb'⟩)
        have HB2 := Lib.hid hb'
        clear hb'
        go_roundw
        case rel => exact ⟨kk + 1, by omega, by go_num, HB2.out, HF2⟩
        case measure => simp [intOf]; omega
      · rw [hq] at hcall
        have HT2 := Lib.hid (HT.out hq)
        clear hq HT HF
        have hcall := Lib.hid hcall
        go_wp2_with (go_at_fn g; refine hcall.out.mono ?_; rintro e w' ⟨rfl, hb'⟩)
        go_ret
        exact ⟨ret_int HT2.out.symm, hb'⟩
    · obtain rfl : kk = os.length := by omega
      have HM := Lib.hid (first_miss p os fun j h => HA.out j h h)
      go_wp2_with fail
      go_ret
      exact ⟨ret_int HM.out.symm, HB.out⟩
end Go.Proofs.Ytcljipgnegahhaa
