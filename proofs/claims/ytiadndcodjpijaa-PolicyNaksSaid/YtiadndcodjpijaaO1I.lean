/-
  Contracts: the library's IndexFunc and ContainsFunc at options.
-/
import Derived.Test.YtiadndcodjpijaaOpts
import Derived.Shelf.RegionOpenPlain
namespace Go.Proofs.Ytiadndcodjpijaa.O
open Go.RowKit
theorem opt_ret {a b : Int} (h : a = b) : Ending.returned (.int .i64 a) = .returned (.int .i64 b) := by rw [h]
set_option maxHeartbeats 800000 in
theorem index_any (g : Nat) (lb : Array Value) (p : Opt.Op → Bool) (v : Value) (os : List Opt.Op) (w : World) (hr : ReadsO w v os) (hl : os.length ≤ 4611686018427387904)
    (eg : ∀ args w, (callFunc g args).run Try.prog w = .ok (.enter g args) w)
    (hp : Hid (∀ (W : World) (o : Opt.Op), Below w.heap.size w W → Calls Try.prog g (#[.agg #[.int .i64 o.1, .string ⟨o.2.toArray⟩]] ++ lb) W fun e w' => e = .returned (.bool (p o)) ∧ Below w.heap.size w w')) :
    Calls Try.prog 28 #[v, .func (.func g) #[] lb] w fun e w' => e = .returned (.int .i64 (Opt.first p os)) ∧ Below w.heap.size w w' := by
  obtain ⟨q, cap, b, off, rfl, _, _, hi, hc⟩ := hr.at
  have HI := Lib.hid hi
  have HC := Lib.hid hc
  clear hi hc hr
  go_enter Try.func28, Try.ntmps28
  go_wp2_with fail
  go_loopw [5, 8] (fun _ s8 wr => ∃ kk : Nat, kk ≤ os.length ∧ s8 = .int .i64 kk ∧ Below w.heap.size w wr ∧ Hid (∀ j (h : j < os.length), j < kk → p os[j] = false)) (fun _ i _ => os.length - (intOf i).toNat)
  case atStart => exact ⟨0, Nat.zero_le _, rfl, Below.refl _ w, Lib.hid fun j _ hj => absurd hj (Nat.not_lt_zero _)⟩
  case round =>
    obtain ⟨kk, hkk, rfl, hb, HA⟩ := hrel
    have HB := Lib.hid hb
    clear hb
    by_cases hlt : kk < os.length
    · have hi := HI.out kk hlt
      obtain ⟨c0, c1⟩ := HC.out kk hlt
      rw [← HB.out.cell (block_lt_of_cell c0)] at c0
      rw [← HB.out.cell (block_lt_of_cell c1)] at c1
      have hcall := hp.out wr os[kk] HB.out
      have HT : Hid (p os[kk] = true → Opt.first p os = kk) := Lib.hid fun e => Opt.first_hit p os kk hlt e HA.out
      have HF : Hid (p os[kk] = false → ∀ j (h : j < os.length), j < kk + 1 → p os[j] = false) := Lib.hid fun e j h hj => by
        by_cases q : j = kk
        · subst q; exact e
        · exact HA.out j h (by omega)
      generalize os[kk] = o at *
      obtain ⟨z, d⟩ := o
      obtain ⟨o8, ho8⟩ : ∃ o8, o8 = off + 2 * kk := ⟨_, rfl⟩
      rw [← ho8] at hi c0 c1
      clear ho8
      cases hq : p (z, d)
      · rw [hq] at hcall
        have HF2 := Lib.hid (HF.out hq)
        clear hq HT HF
        have hcall := Lib.hid hcall
        go_wp2_with (go_at_fn g; refine hcall.out.mono ?_; rintro e w' ⟨rfl, hb'⟩)
        have HB2 := Lib.hid hb'
        clear hb'
        go_roundw
        case rel => exact ⟨kk + 1, by omega, by go_num, HB2.out, HF2⟩
        case measure => simp [intOf]; omega
      · rw [hq] at hcall
        have HT2 := Lib.hid (HT.out hq)
        clear hq HT HF
        have hcall := Lib.hid hcall
        go_wp2_with (go_at_fn g; refine hcall.out.mono ?_; rintro e w' ⟨rfl, hb'⟩)
        go_ret
        exact ⟨opt_ret HT2.out.symm, hb'⟩
    · obtain rfl : kk = os.length := by omega
      have HM := Lib.hid (Opt.first_miss p os fun j h => HA.out j h h)
      go_wp2_with fail
      go_ret
      exact ⟨opt_ret HM.out.symm, HB.out⟩
set_option maxHeartbeats 400000 in
theorem contains_with (g : Nat) (p : Opt.Op → Bool) (v : Value) (os : List Opt.Op) (w : World) (hr : ReadsO w v os) (hl : os.length ≤ 4611686018427387904)
    (eg : ∀ args w, (callFunc g args).run Try.prog w = .ok (.enter g args) w)
    (hp : ∀ (W : World) (o : Opt.Op), Calls Try.prog g #[.agg #[.int .i64 o.1, .string ⟨o.2.toArray⟩]] W fun e w' => e = .returned (.bool (p o)) ∧ Below W.heap.size W w') :
    Calls Try.prog 21 #[v, .func (.func g) #[] #[]] w fun e w' => e = .returned (.bool (os.any p)) ∧ Below w.heap.size w w' := by
  rw [← Opt.first_any]
  have I := Lib.hid (index_any g #[] p v os w hr hl eg (Lib.hid fun W o hb => (hp W o).mono fun _ _ ⟨h1, h2⟩ => ⟨h1, bel2 hb h2⟩))
  generalize Opt.first p os = z at *
  clear hr
  go_enter Try.func21, Try.ntmps21
  go_wp2_with fail
  refine I.out.mono ?_
  rintro e w1 ⟨rfl, hb1⟩
  have HB2 := Lib.hid hb1
  clear hb1
  go_wp2_with fail
  go_ret
  exact ⟨rfl, HB2.out⟩
end Go.Proofs.Ytiadndcodjpijaa.O
