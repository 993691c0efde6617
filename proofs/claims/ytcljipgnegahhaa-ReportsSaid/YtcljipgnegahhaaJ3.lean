/-
  Contract of the document's own Report.
-/
import Derived.Test.YtcljipgnegahhaaJMath
import Derived.Test.YtcljipgnegahhaaInts
import Derived.Test.YtcljipgnegahhaaTwoW
import Derived.Test.YtcljipgnegahhaaText
import Derived.Deep.RegionWith
import Derived.Deep.RegionHeld
import Derived.BigRegion
namespace Go.Proofs.Ytcljipgnegahhaa.J
open Go.RowKit
theorem ref_many (v : Value) (zs : List Int) (w : World) (hr : ReadsI w v zs) (h12 : zs.length ≠ 12) :
    Calls Try.prog 8 #[v] w fun e w' => e = .returned (.tuple #[.string ⟨#[]⟩, .int .i64 700]) ∧ Below w.heap.size w w' := by
  obtain ⟨p, cap, rfl⟩ := hr.form
  have q1 : ((zs.length : Int) != 12) = true := by rw [bne_iff_ne]; omega
  generalize zs.length = n at *
  clear hr h12
  go_enter Try.func8, Try.ntmps8
  go_wp2_with fail
  go_ret2
  exact ⟨rfl, Below.refl _ _⟩
theorem cell_kept {b o : Nat} {w a a' : World} {x : Value} (h : a.cell? ⟨b, o, none⟩ = some x ∧ Below w.heap.size w a) (k : Below a.heap.size a a') : a'.cell? ⟨b, o, none⟩ = some x ∧ Below w.heap.size w a' :=
  ⟨(k.cell (block_lt_of_cell h.1)).trans h.1, bel2 h.2 k⟩
theorem cell_drew {b o : Nat} {w a : World} {x : Value} (h : a.cell? ⟨b, o, none⟩ = some x ∧ Below w.heap.size w a) : a.drew.cell? ⟨b, o, none⟩ = some x ∧ Below w.heap.size w a.drew := ⟨h.1, h.2.drew⟩
theorem ret_two {a b : List UInt8} {m n : Int} (h : a = b ∧ m = n) : Ending.returned (.tuple #[.string ⟨a.toArray⟩, .int .i64 m]) = .returned (.tuple #[.string ⟨b.toArray⟩, .int .i64 n]) := by rw [h.1, h.2]
set_option maxHeartbeats 1600000 in
theorem ref_walk (v : Value) (zs : List Int) (w : World) (hr : ReadsI w v zs) (h12 : zs.length = 12) :
    Calls Try.prog 8 #[v] w fun e w' => e = .returned (.tuple #[.string ⟨(Rep.put zs).toArray⟩, .int .i64 (Rep.code zs)]) ∧ Below w.heap.size w w' := by
  obtain ⟨p, cap, b, off, rfl, _, _, hi, hc⟩ := hr.at
  have HC := Lib.hid hc
  have HBAD : Hid (∀ k (h : k < zs.length), Rep.ok zs[k] = false → [] = Rep.put zs ∧ (700 : Int) = Rep.code zs) := Lib.hid fun k h e => by
    have hg : Rep.good zs = false := by
      rw [Bool.eq_false_iff]
      intro hg
      have := List.all_eq_true.1 ((Rep.good_iff zs).1 hg).2 _ (List.getElem_mem h)
      rw [e] at this
      cases this
    exact ⟨(Rep.put_bad zs hg).1.symm, (Rep.put_bad zs hg).2.symm⟩
  have HGOOD : Hid (zs.all Rep.ok = true → Rep.wires zs = Rep.put zs ∧ (0 : Int) = Rep.code zs) := Lib.hid fun e => by
    have hg := (Rep.good_iff zs).2 ⟨h12, e⟩
    exact ⟨(Rep.put_good zs hg).1.symm, (Rep.put_good zs hg).2.symm⟩
  rw [h12] at hi ⊢
  have H12 := Lib.hid h12
  have HI := Lib.hid hi
  clear hr h12 hi hc
  go_enter Try.func8, Try.ntmps8
  go_wp2_with fail
  go_loopw [4, 5] (fun s4 s5 wr => ∃ k : Nat, k ≤ 12 ∧ s5 = .int .i64 k ∧ s4 = .string ⟨(Rep.wires (zs.take k)).toArray⟩ ∧ Hid ((zs.take k).all Rep.ok = true) ∧ Below w.heap.size w wr) (fun _ i _ => 12 - (intOf i).toNat)
  case atStart => exact ⟨0, Nat.zero_le _, rfl, rfl, Lib.hid rfl, Below.refl _ _⟩
  case round =>
    obtain ⟨k, hk, rfl, rfl, HA, hb⟩ := hrel
    have HB := Lib.hid hb
    clear hb
    by_cases hlt : k < 12
    · have hlt2 : k < zs.length := by have := H12.out; omega
      have hi := HI.out k hlt
      have c0 := HC.out k hlt2
      rw [← HB.out.cell (block_lt_of_cell c0)] at c0
      have HS := Lib.hid (Rep.wires_snoc zs k hlt2)
      have HL := Rep.wires_length (zs.take k)
      rw [List.length_take, Nat.min_eq_left (by omega)] at HL
      have HBD := Lib.hid (HBAD.out k hlt2)
      have HT : Hid (Rep.ok zs[k] = true → (zs.take (k + 1)).all Rep.ok = true) := Lib.hid fun e => by
        rw [List.take_succ_eq_append_getElem hlt2, List.all_append, HA.out]
        simp [e]
      generalize zs[k] = z at *
      obtain ⟨o8, ho8⟩ : ∃ o8, o8 = off + k := ⟨_, rfl⟩
      rw [← ho8] at hi c0
      clear ho8
      by_cases h1 : z < 0
      · have HE := Lib.hid (HBD.out (by unfold Rep.ok; rw [decide_eq_false (by omega)]; rfl))
        clear HBD HT HS
        go_wp2_with fail
        go_ret2
        exact ⟨ret_two HE.out, HB.out⟩
      · by_cases h2 : 4294967295 < z
        · have HE := Lib.hid (HBD.out (by unfold Rep.ok; rw [decide_eq_false (p := z ≤ 4294967295) (by omega), Bool.and_false]))
          have h3 : 0 ≤ z := by omega
          clear HBD HT HS h1
          go_wp2_with fail
          go_ret2
          exact ⟨ret_two HE.out, HB.out⟩
        · have HE := Lib.hid (HT.out ((Rep.ok_iff z).2 ⟨by omega, by omega⟩))
          obtain ⟨n, rfl⟩ : ∃ n : Nat, z = (n : Int) := ⟨z.toNat, by omega⟩
          have h3 : (n : Int) ≤ 4294967295 := by omega
          obtain ⟨h, eh⟩ : ∃ h : Nat, h = n / 65536 := ⟨_, rfl⟩
          have hh : (n : Int) / 65536 = (h : Int) := by omega
          have HF : Hid (Rep.four ((n : Int).toNat) = twoW h ++ twoW n) := Lib.hid (by
            subst eh
            unfold Rep.four twoW
            rw [Int.toNat_natCast, Nat.div_div_eq_div_mul]
            rfl)
          have l1 : (twoW h).length = 2 := rfl
          have l2 : (twoW n).length = 2 := rfl
          generalize Rep.wires (zs.take k) = wl at *
          have r1 := sums wl (twoW h) (by omega)
          have r2 := sums (wl ++ twoW h) (twoW n) (by rw [List.length_append]; omega)
          unfold Sums at r1 r2
          obtain ⟨u1, hu1⟩ : ∃ u, u = wl ++ twoW h := ⟨_, rfl⟩
          obtain ⟨u2, hu2⟩ : ∃ u, u = u1 ++ twoW n := ⟨_, rfl⟩
          rw [← hu1] at r1 r2
          rw [← hu2] at r2
          have HU : Hid (wl ++ (twoW h ++ twoW n) = u2) := Lib.hid (by rw [hu2, hu1, List.append_assoc])
          clear hu1 hu2 eh l1 l2 HL h1 h2 HBD HT
          have K0 := Lib.hid (show wr.cell? ⟨b, o8, none⟩ = some (.int .i64 (n : Int)) ∧ Below w.heap.size w wr from ⟨c0, HB.out⟩)
          have hnn : (0 : Int) ≤ (n : Int) := by omega
          go_wp2_with fail
          go_region_held (fun a => a.cell? ⟨b, o8, none⟩ = some (.int .i64 (n : Int)) ∧ Below w.heap.size w a) (first | assumption | exact cell_drew K0.out | exact cell_kept (by assumption) hb4)
            (first | (go_at_call 19; (with_reducible refine (twoW_any _ _).mono ?_); rintro e w4 ⟨rfl, hb4⟩))
          rename_i hH
          have H9 := Lib.hid hH
          clear hH hb4
          go_wp2_with fail
          go_roundw
          case rel => exact ⟨k + 1, by omega, by go_num, by rw [HS.out, HF.out, HU.out], HE, H9.out.2⟩
          case measure => simp [intOf]; omega
    · obtain rfl : k = 12 := by omega
      have hl : zs.take 12 = zs := List.take_of_length_le (by have := H12.out; omega)
      rw [hl] at HA ⊢
      have HE := Lib.hid (HGOOD.out HA.out)
      clear hl
      go_wp2_with fail
      go_ret2
      exact ⟨ret_two HE.out, HB.out⟩
end Go.Proofs.Ytcljipgnegahhaa.J
