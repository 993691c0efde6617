/-
  The walk of the law of numbers that come back.
-/
import Derived.Test.YtcljipgnegahhaaJ9
import Derived.Test.YtcljipgnegahhaaLaterI
import Derived.Test.YtcljipgnegahhaaCopyT
namespace Go.Proofs.Ytcljipgnegahhaa.J
open Go.RowKit
theorem by_words (z : Int) : ∃ x : Nat, wrap64 ((IntKind.u64.wrap z).tmod 4294967296) = (x : Int) ∧ x ≤ 4294967295 := by
  have h0 : 0 ≤ IntKind.u64.wrap z := by
    show 0 ≤ z % 18446744073709551616
    omega
  generalize IntKind.u64.wrap z = y at *
  have hm : y.tmod 4294967296 = y % 4294967296 := Int.tmod_eq_emod_of_nonneg h0
  refine ⟨(y % 4294967296).toNat, ?_, by omega⟩
  rw [hm, IntWalk.wrap64_in _ ⟨by omega, by omega⟩]
  omega
theorem all_set (L : List Int) (k : Nat) (x : Int) (h : L.all Rep.ok = true) (hx : Rep.ok x = true) : (L.set k x).all Rep.ok = true := by
  rw [List.all_eq_true] at h ⊢
  intro z hz
  rcases List.mem_or_eq_of_mem_set hz with h1 | h1
  · exact h z h1
  · rw [h1]; exact hx
theorem owns_frozen {w W : World} {g n cap : Nat} {zs : List Int} (hn : zs.length = n) (h : OwnsI w W (.slice (some ⟨g, 0, none⟩) n cap) zs) (k : Nat) : W.frozen? ⟨g, k, none⟩ = false := by
  subst hn
  exact h.1.frozenAt k
theorem owns_one {w W : World} {g n cap : Nat} {zs : List Int} (hn : zs.length = n) (h : OwnsI w W (.slice (some ⟨g, 0, none⟩) n cap) zs) (k : Nat) (hk : k < n) : ∃ z, W.cell? ⟨g, k, none⟩ = some (.int .i64 z) := by
  subst hn
  have hr := h.1.cells rfl k _ (cellsI_at zs k hk)
  rw [add_at, Nat.zero_add] at hr
  exact ⟨_, hr⟩
/-- Twelve good numbers: as they are written, and read. -/
theorem there (L : List Int) (h : Rep.good L = true) : ∃ S : ByteArray,
    Hid (∀ v W, ReadsI W v L → Calls Try.prog 7 #[v] W fun e w' => e = .returned (.tuple #[.string S, .int .i64 0]) ∧ Below W.heap.size W w') ∧
    Hid (∀ W, Calls Try.prog 9 #[.string S] W (GetPost (L, 0) W)) := by
  refine ⟨⟨(Rep.put L).toArray⟩, Lib.hid fun v W hr => ?_, Lib.hid fun W => ?_⟩
  · have h1 := jput_any v L W hr
    rwa [(Rep.put_good L h).2] at h1
  · have h1 := jget_any (Rep.put L) W
    rwa [Rep.get_put L h] at h1
theorem back (T : List UInt8) (h : T.length = 48) : ∃ L : List Int, L.length = 12 ∧
    Hid (∀ v W, ReadsI W v L → Calls Try.prog 7 #[v] W fun e w' => e = .returned (.tuple #[.string ⟨T.toArray⟩, .int .i64 0]) ∧ Below W.heap.size W w') ∧
    Hid (∀ W, Calls Try.prog 9 #[.string ⟨T.toArray⟩] W (GetPost (L, 0) W)) := by
  obtain ⟨h1, h2⟩ := Rep.put_get T h
  refine ⟨Rep.nums T, Rep.nums_length 12 T (by omega), Lib.hid fun v W hr => ?_, Lib.hid fun W => ?_⟩
  · have h3 := jput_any v _ W hr
    rwa [h1, h2] at h3
  · have h3 := jget_any T W
    rwa [Rep.get_good T h] at h3
/-- Twelve numbers that may stand in a report, and what a call's own slice holds. -/
def Twelve (w W : World) (g : Nat) : Prop := ∃ L : List Int, L.length = 12 ∧ L.all Rep.ok = true ∧ OwnsI w W (.slice (some ⟨g, 0, none⟩) 12 12) L
set_option maxRecDepth 100000 in
set_option maxHeartbeats 3200000 in
theorem back_walk (p : Option Addr) (n cap0 : Nat) (l : List UInt8) (w : World)
    (hc : Hid (∀ k, k < n → ∃ b o z, (∀ W' : World, (Instr.indexAt 22 (.slice p n cap0) (.int .i64 (k : Int))).run Try.prog W' = .ok (.pointer (some ⟨b, o, none⟩)) W') ∧ w.cell? ⟨b, o, none⟩ = some (.int .i64 z))) :
    Calls Try.prog 4 #[.slice p n cap0, .string ⟨l.toArray⟩] w fun e w' => e = .returned (.bool true) ∧ Below w.heap.size w w' := by
  have M := fun W => make_ints 12 (by decide) W
  have M2 := fun W => make_bytes 48 (by decide) W
  rw [show ((12 : Nat) : Int) = 12 from rfl] at M
  rw [show ((48 : Nat) : Int) = 48 from rfl] at M2
  go_enter Try.func4, Try.ntmps4
  go_wp2_with fail
  refine (awake_any _).mono ?_
  rintro e w1 ⟨rfl, hb1⟩
  have B1 := Lib.hid hb1
  have HM := Lib.hid (OwnsI.laid w1 _ rfl (List.replicate 12 0) (by decide) _ rfl)
  clear hb1
  go_wp2_with fail
  go_loopw [6] (fun i wr => ∃ k : Nat, k ≤ n ∧ k ≤ 12 ∧ i = .int .i64 k ∧ Twelve w1 wr w1.heap.size) (fun i _ => 12 - (intOf i).toNat)
  case atStart => exact ⟨0, Nat.zero_le _, Nat.zero_le _, rfl, _, rfl, by decide, HM.out⟩
  case round =>
    obtain ⟨k, hk, hk2, rfl, L, hL, hok, ho⟩ := hrel
    have HO := Lib.hid ho
    have HL := Lib.hid hL
    have HOK := Lib.hid hok
    clear ho hL hok
    by_cases h1 : k < n ∧ k < 12
    · obtain ⟨h1, h2⟩ := h1
      obtain ⟨b, o8, z, hi, c0⟩ := hc.out k h1
      rw [← (bel2 B1.out HO.out.2).cell (block_lt_of_cell c0)] at c0
      have hi2 := fun W => intI_index w1.heap.size 0 12 12 k h2 W
      rw [Nat.zero_add] at hi2
      obtain ⟨y, hy, hy2⟩ := by_words z
      have hf := owns_frozen HL.out HO.out k
      obtain ⟨z0, cx⟩ := owns_one HL.out HO.out k h2
      have HO2 := Lib.hid (set_at HL.out HO.out (Nat.le_refl _) k (y : Int))
      have HOK2 := Lib.hid (all_set L k (y : Int) HOK.out ((Rep.ok_iff _).2 ⟨by omega, by omega⟩))
      clear hy2
      go_wp2_with fail
      go_roundw
      case rel => exact ⟨k + 1, by omega, by omega, by go_num, _, by rw [List.length_set]; exact HL.out, HOK2.out, HO2.out⟩
      case measure => simp [intOf]; omega
    · obtain ⟨S, P, G⟩ := there L ((Rep.good_iff L).2 ⟨HL.out, HOK.out⟩)
      have hw : n ≤ k ∨ (k < n ∧ 12 ≤ k) := by omega
      clear h1
      rcases hw with h1 | ⟨h1, h2⟩
      all_goals
        go_wp2_with fail
        refine (P.out _ _ HO.out.reads).mono ?_
        rintro e w2 ⟨rfl, hb2⟩
        have B2 := Lib.hid (bel2 (bel2 B1.out HO.out.2) hb2)
        have HO2 := Lib.hid (HO.out.below hb2)
        clear hb2
        go_wp2_with fail
        refine (G.out _).mono ?_
        rintro e w3 ⟨v3, rfl, ho3⟩
        obtain ⟨q3, cap3, rfl⟩ := ho3.reads.form
        have B3 := Lib.hid (bel2 B2.out ho3.2)
        have HO3 := Lib.hid (HO2.out.below ho3.2)
        have HY3 := Lib.hid ho3
        clear ho3
        go_wp2_with (refine wp_copy_text rfl _ _ rfl 48 l rfl rfl ?_)
        intro v4 w4 T hT hrow hb4
        have B4 := Lib.hid (bel2 B3.out hb4)
        have HO4 := Lib.hid (HO3.out.below hb4)
        have HY4 := Lib.hid (HY3.out.below hb4)
        obtain ⟨L2, hL2, P2, G2⟩ := back T hT
        have CV := Lib.hid fun W (hb : Below w4.heap.size w4 W) => row_text hT hrow hb
        have cv4 := CV.out w4 (Below.refl _ _)
        have HL2 := Lib.hid hL2
        clear hb4 hT hrow hL2
        go_wp2_with fail
        refine (G2.out _).mono ?_
        rintro e w5 ⟨v5, rfl, ho5⟩
        obtain ⟨q5, cap5, rfl⟩ := ho5.reads.form
        have B5 := Lib.hid (bel2 B4.out ho5.2)
        have HO5 := Lib.hid (HO4.out.below ho5.2)
        have HY5 := Lib.hid (HY4.out.below ho5.2)
        have R5 := Lib.hid ho5.reads
        have W5 := Lib.hid ho5.2
        clear ho5 cv4
        go_wp2_with fail
        refine (P2.out _ _ R5.out).mono ?_
        rintro e w6 ⟨rfl, hb6⟩
        have B6 := Lib.hid (bel2 B5.out hb6)
        have HO6 := Lib.hid (HO5.out.below hb6)
        have HY6 := Lib.hid (HY5.out.below hb6)
        have W6 := Lib.hid (bel2 W5.out hb6)
        clear hb6
        go_wp2_with (first | (go_at_call 11; refine (num_any _ _).mono ?_; rintro e w9 ⟨rfl, rfl⟩) | (refine (sameI_yes HY6.out.reads HO6.out.reads (by rw [HL.out]; decide)).mono ?_; rintro e w7 ⟨rfl, hb7⟩; have B7 := Lib.hid (bel2 B6.out hb7); have cv7 := CV.out _ (bel2 W6.out hb7); clear hb7))
        go_ret
        exact ⟨rfl, B7.out⟩
theorem walk_back (v : Value) (zs : List Int) (s : ByteArray) (w : World) (hr : ReadsI w v zs) (_ : zs.length * 8 ≤ 140737488351232) (_ : s.size ≤ 9223372036854775807) :
    Calls Try.prog 4 #[v, .string s] w fun e w' => e = .returned (.bool true) ∧ Below w.heap.size w w' := by
  obtain ⟨l, rfl⟩ : ∃ l : List UInt8, s = ⟨l.toArray⟩ := ⟨s.data.toList, by simp⟩
  obtain ⟨p, cap0, b, off, rfl, _, _, hi, hc⟩ := hr.at
  exact back_walk p zs.length cap0 l w (Lib.hid fun k hk => ⟨b, off + k, zs[k], hi k hk, hc k hk⟩)
end Go.Proofs.Ytcljipgnegahhaa.J
