/-
  Contract of the program's Put of numbers.
-/
import Derived.Test.YtcljipgnegahhaaJ1
import Derived.Test.YtcljipgnegahhaaRoom
namespace Go.Proofs.Ytcljipgnegahhaa.J
open Go.RowKit
theorem put_many (v : Value) (zs : List Int) (w : World) (hr : ReadsI w v zs) (h12 : zs.length ≠ 12) :
    Calls Try.prog 7 #[v] w fun e w' => e = .returned (.tuple #[.string ⟨#[]⟩, .int .i64 700]) ∧ Below w.heap.size w w' := by
  obtain ⟨p, cap, rfl⟩ := hr.form
  have q1 : ((zs.length : Int) != 12) = true := by rw [bne_iff_ne]; omega
  generalize zs.length = n at *
  clear hr h12
  go_enter Try.func7, Try.ntmps7
  go_wp2_with fail
  go_ret2
  exact ⟨rfl, Below.refl _ _⟩
theorem put_beyond (v : Value) (zs : List Int) (w : World) (hr : ReadsI w v zs) (h12 : zs.length = 12) (hb : zs.all Rep.ok = false) :
    Calls Try.prog 7 #[v] w fun e w' => e = .returned (.tuple #[.string ⟨#[]⟩, .int .i64 700]) ∧ Below w.heap.size w w' := by
  have C := contains_any v zs w hr (by omega)
  rw [hb] at C
  obtain ⟨p, cap, rfl⟩ := hr.form
  rw [h12] at C ⊢
  have C := Lib.hid C
  clear hr h12 hb
  go_enter Try.func7, Try.ntmps7
  go_wp2_with fail
  refine C.out.mono ?_
  rintro e w1 ⟨rfl, hb1⟩
  go_wp2_with fail
  go_ret2
  exact ⟨rfl, hb1⟩
theorem byte_cell (n m : Nat) (h : n % 256 = m) : ∃ p : UInt8, (p.toNat : Int) = (m : Int) ∧ p = UInt8.ofNat n := ⟨UInt8.ofNat n, by simp; omega, rfl⟩
set_option maxHeartbeats 800000 in
theorem put_fine (v : Value) (zs : List Int) (w : World) (hr : ReadsI w v zs) (h12 : zs.length = 12) (hb : zs.all Rep.ok = true) :
    Calls Try.prog 7 #[v] w fun e w' => e = .returned (.tuple #[.string ⟨(Rep.wires zs).toArray⟩, .int .i64 0]) ∧ Below w.heap.size w w' := by
  have C := contains_any v zs w hr (by omega)
  rw [hb] at C
  obtain ⟨p, cap, b, off, rfl, _, _, hi, hc⟩ := hr.at
  have HC := Lib.hid hc
  have HOK : Hid (∀ k (h : k < zs.length), ∃ n : Nat, zs[k] = (n : Int) ∧ n ≤ 4294967295) := Lib.hid fun k h => by
    obtain ⟨h1, h2⟩ := (Rep.ok_iff _).1 (List.all_eq_true.1 hb _ (List.getElem_mem h))
    exact ⟨zs[k].toNat, by omega, by omega⟩
  rw [h12] at C hi ⊢
  have H12 := Lib.hid h12
  have C := Lib.hid C
  have HI := Lib.hid hi
  have M := fun W => make_room 48 (by decide) W
  rw [show ((48 : Nat) : Int) = 48 from rfl] at M
  clear hr h12 hb hi hc
  go_enter Try.func7, Try.ntmps7
  go_wp2_with fail
  refine C.out.mono ?_
  rintro e w1 ⟨rfl, hb1⟩
  have HB1 := Lib.hid hb1
  have HR := Lib.hid (Owns.room w1 48 (by decide))
  clear hb1
  go_wp2_with fail
  go_loopw [4, 6, 17] (fun s4 _ s17 wr => ∃ k : Nat, k ≤ 12 ∧ s17 = .int .i64 k ∧ Owns w1 wr s4 (Rep.wires (zs.take k))) (fun _ _ i _ => 12 - (intOf i).toNat)
  case atStart => exact ⟨0, Nat.zero_le _, rfl, HR.out⟩
  case round =>
    obtain ⟨k, hk, rfl, ho⟩ := hrel
    have HO := Lib.hid ho
    clear ho
    by_cases hlt : k < 12
    · have hlt2 : k < zs.length := by have := H12.out; omega
      have hi := HI.out k hlt
      have c0 := HC.out k hlt2
      rw [← HB1.out.cell (block_lt_of_cell c0)] at c0
      rw [← HO.out.2.cell (block_lt_of_cell c0)] at c0
      have HS := Lib.hid (Rep.wires_snoc zs k hlt2)
      have HL := Rep.wires_length (zs.take k)
      rw [List.length_take, Nat.min_eq_left (by omega)] at HL
      obtain ⟨n, hn, hn2⟩ := HOK.out k hlt2
      generalize zs[k] = z at *
      subst hn
      obtain ⟨o8, ho8⟩ : ∃ o8, o8 = off + k := ⟨_, rfl⟩
      rw [← ho8] at hi c0
      obtain ⟨x1, e1, f1⟩ := byte_cell (n / 16777216) _ rfl
      obtain ⟨x2, e2, f2⟩ := byte_cell (n / 65536) _ rfl
      obtain ⟨x3, e3, f3⟩ := byte_cell (n / 256) _ rfl
      obtain ⟨x4, e4, f4⟩ := byte_cell n _ rfl
      have HF : Hid (Rep.four ((n : Int).toNat) = [x1, x2, x3, x4]) := Lib.hid (by rw [f1, f2, f3, f4]; rfl)
      have g1 : (n : Int) / 16777216 % 256 = (x1.toNat : Int) := by omega
      have g2 : (n : Int) / 65536 % 256 = (x2.toNat : Int) := by omega
      have g3 : (n : Int) / 256 % 256 = (x3.toNat : Int) := by omega
      have g4 : (n : Int) % 256 = (x4.toNat : Int) := by omega
      have g5 : (n : Int) / 16777216 = (x1.toNat : Int) := by omega
      generalize Rep.wires (zs.take k) = wl at *
      clear ho8 e1 e2 e3 e4 f1 f2 f3 f4
      go_wp2_with (at_builtin; refine wp_push rfl _ _ rfl wl [x1, x2, x3, x4] HO.out rfl rfl (by simp; omega) ?_)
      intro v' w2 hown2
      have HO2 := Lib.hid hown2
      clear hown2
      go_wp2_with fail
      go_roundw
      case rel => exact ⟨k + 1, by omega, by go_num, by rw [HS.out, HF.out]; exact HO2.out⟩
      case measure => simp [intOf]; omega
    · obtain rfl : k = 12 := by omega
      have hl : zs.take 12 = zs := List.take_of_length_le (by have := H12.out; omega)
      rw [hl] at HO
      have ht := own_text HO.out.1
      clear hl
      go_wp2_with fail
      go_ret2
      exact ⟨rfl, bel2 HB1.out HO.out.2⟩
/-- The contract of Put. -/
theorem jput_any (v : Value) (zs : List Int) (w : World) (hr : ReadsI w v zs) :
    Calls Try.prog 7 #[v] w fun e w' => e = .returned (.tuple #[.string ⟨(Rep.put zs).toArray⟩, .int .i64 (Rep.code zs)]) ∧ Below w.heap.size w w' := by
  cases hg : Rep.good zs
  · obtain ⟨h1, h2⟩ := Rep.put_bad zs hg
    rw [h1, h2]
    by_cases h12 : zs.length = 12
    · refine put_beyond v zs w hr h12 ?_
      unfold Rep.good at hg
      rw [decide_eq_true h12, Bool.true_and] at hg
      exact hg
    · exact put_many v zs w hr h12
  · obtain ⟨h1, h2⟩ := Rep.put_good zs hg
    obtain ⟨h3, h4⟩ := (Rep.good_iff zs).1 hg
    rw [h1, h2]
    exact put_fine v zs w hr h3 h4
end Go.Proofs.Ytcljipgnegahhaa.J
