/-
  Contracts: judge of options, the program's Put of options.
-/
import Derived.Test.YtmonoicdejallaaO1
import Derived.Test.YtmonoicdejallaaBuilderK
namespace Go.Proofs.Ytmonoicdejallaa.O
open Go.RowKit
set_option maxHeartbeats 800000 in
theorem judge_any (v : Value) (os : List Opt.Op) (w : World) (hr : ReadsO w v os) (hl : os.length ≤ 4611686018427387904) :
    Calls Try.prog 29 #[v] w fun e w' => e = .returned (.int .i64 (Opt.code os)) ∧ Below w.heap.size w w' := by
  have C := contains_any v os w hr hl
  cases hk : os.all Opt.kindOk
  · rw [hk] at C
    have C := Lib.hid C
    rw [Opt.code_bad os hk]
    clear hk hr
    go_enter Try.func29, Try.ntmps29
    go_wp2_with fail
    refine C.out.mono ?_
    rintro e w1 ⟨rfl, hb1⟩
    go_wp2_with fail
    go_ret
    exact ⟨rfl, hb1⟩
  · rw [hk] at C
    have C := Lib.hid C
    have HK := Lib.hid hk
    clear hk
    obtain ⟨q, cap, b, off, rfl, _, _, hi, hc⟩ := hr.at
    have HI := Lib.hid hi
    have HC := Lib.hid hc
    clear hi hc hr
    go_enter Try.func29, Try.ntmps29
    go_wp2_with fail
    refine C.out.mono ?_
    rintro e w1 ⟨rfl, hb1⟩
    have HB1 := Lib.hid hb1
    clear hb1
    go_wp2_with fail
    go_loopw [3, 10] (fun s i wr => ∃ k : Nat, k ≤ os.length ∧ i = .int .i64 k ∧ s = .int .i64 (Opt.wires (os.take k)).length ∧ Opt.fits (os.take k) = true ∧ Below w.heap.size w wr) (fun _ i _ => os.length - (intOf i).toNat)
    case atStart => exact ⟨0, Nat.zero_le _, rfl, rfl, rfl, HB1.out⟩
    case round =>
      obtain ⟨k, hk, rfl, rfl, hf, hb⟩ := hrel
      have HB := Lib.hid hb
      have HF := Lib.hid hf
      have hn := (Opt.fits_short _ hf).2
      clear hb hf
      by_cases hlt : k < os.length
      · have hi := HI.out k hlt
        obtain ⟨c0, c1⟩ := HC.out k hlt
        rw [← HB.out.cell (block_lt_of_cell c0)] at c0
        rw [← HB.out.cell (block_lt_of_cell c1)] at c1
        have HW : Hid ((Opt.wires (os.take (k + 1))).length = (Opt.wires (os.take k)).length + (os[k].2.length + 2)) := Lib.hid (by rw [Opt.wires_snoc os k hlt, List.length_append, Opt.one_length])
        have HX : Hid ((253 < os[k].2.length ∨ 2048 < (Opt.wires (os.take k)).length + (os[k].2.length + 2)) → Opt.code os = 401) := Lib.hid fun h => Opt.code_far os HK.out k (Opt.fits_far os k hlt h)
        have HG : Hid (os[k].2.length ≤ 253 → (Opt.wires (os.take k)).length + (os[k].2.length + 2) ≤ 2048 → Opt.fits (os.take (k + 1)) = true) := Lib.hid fun h1 h2 => Opt.fits_two os k hlt HF.out h1 h2
        generalize (Opt.wires (os.take k)).length = n at *
        generalize os[k] = o at *
        obtain ⟨z, d⟩ := o
        dsimp only at HX HG HW
        obtain ⟨o8, ho8⟩ : ∃ o8, o8 = off + 2 * k := ⟨_, rfl⟩
        rw [← ho8] at hi c0 c1
        clear ho8
        by_cases h1 : 253 < d.length
        · have HX2 := Lib.hid (HX.out (.inl h1))
          clear HX HG
          go_wp2_with fail
          go_ret
          exact ⟨opt_ret HX2.out.symm, HB.out.alloc HB.out.size _⟩
        · by_cases h2 : 2048 < n + (d.length + 2)
          · have HX2 := Lib.hid (HX.out (.inr h2))
            clear HX HG
            go_wp2_with fail
            go_ret
            exact ⟨opt_ret HX2.out.symm, HB.out.alloc HB.out.size _⟩
          · have HG2 := Lib.hid (HG.out (by omega) (by omega))
            clear HX HG
            go_wp2_with fail
            go_roundw
            case rel => exact ⟨k + 1, by omega, by go_num, by rw [HW.out]; go_num, HG2.out, HB.out.alloc HB.out.size _⟩
            case measure => simp [intOf]; omega
      · obtain rfl : k = os.length := by omega
        have HG : Hid (Opt.code os = 0) := Lib.hid (Opt.code_good os HK.out (by have := HF.out; rwa [List.take_length] at this))
        go_wp2_with fail
        go_ret
        exact ⟨opt_ret HG.out.symm, HB.out⟩
theorem kind_byte (z : Int) (h : 0 ≤ z ∧ z ≤ 255) : z = ((UInt8.ofNat z.toNat).toNat : Int) := by simp; omega
theorem len_byte (n : Nat) (h : n ≤ 253) : (2 + (n : Int)) = ((UInt8.ofNat (n + 2)).toNat : Int) := by simp; omega
set_option maxHeartbeats 800000 in
theorem put_good_any (v : Value) (os : List Opt.Op) (w : World) (hr : ReadsO w v os) (hl : os.length ≤ 4611686018427387904) (h0 : Opt.code os = 0) :
    Calls Try.prog 18 #[v] w fun e w' => e = .returned (.tuple #[.string ⟨(Opt.wires os).toArray⟩, .int .i64 0]) ∧ Below w.heap.size w w' := by
  have J := judge_any v os w hr hl
  rw [h0] at J
  have J := Lib.hid J
  obtain ⟨hgd, hln⟩ : (∀ o ∈ os, (0 ≤ o.1 ∧ o.1 ≤ 255) ∧ o.2.length ≤ 253) ∧ (Opt.wires os).length ≤ 2048 := by
    rcases Opt.code_ways os with ⟨_, h⟩ | ⟨_, _, h⟩ | ⟨h1, h2, _⟩
    · omega
    · omega
    · obtain ⟨h3, h4⟩ := Opt.fits_short os h2
      refine ⟨fun o ho => ⟨?_, ?_⟩, h4⟩
      · simpa [Opt.kindOk] using List.all_eq_true.1 h1 o ho
      · simpa [Opt.short] using List.all_eq_true.1 h3 o ho
  have HGD := Lib.hid hgd
  clear h0 hgd
  obtain ⟨q, cap, b, off, rfl, _, _, hi, hc⟩ := hr.at
  have HI := Lib.hid hi
  have HC := Lib.hid hc
  clear hi hc hr
  go_enter Try.func18, Try.ntmps18
  go_wp2_with fail
  refine J.out.mono ?_
  rintro e w1 ⟨rfl, hb1⟩
  have HB1 := Lib.hid hb1
  have HN := Lib.hid (Try.kNew w1)
  have HB2 := Lib.hid ((Below.refl w1.heap.size w1).alloc (Nat.le_refl _) (.cells #[.pointer none, .slice none 0 0] 64))
  clear hb1
  go_wp2_with fail
  go_loopw [15] (fun i wr => ∃ k : Nat, k ≤ os.length ∧ i = .int .i64 k ∧ Try.IsB w1.heap.size w1.heap.size (Opt.wires (os.take k)) wr ∧ Below w1.heap.size w1 wr) (fun i _ => os.length - (intOf i).toNat)
  case atStart => exact ⟨0, Nat.zero_le _, rfl, HN.out, HB2.out⟩
  case round =>
    obtain ⟨k, hk, rfl, hB, hb⟩ := hrel
    have HB := Lib.hid hB
    have Hb := Lib.hid hb
    clear hB hb
    by_cases hlt : k < os.length
    · have hi := HI.out k hlt
      obtain ⟨c0, c1⟩ := HC.out k hlt
      rw [← HB1.out.cell (block_lt_of_cell c0)] at c0
      rw [← HB1.out.cell (block_lt_of_cell c1)] at c1
      rw [← Hb.out.cell (block_lt_of_cell c0)] at c0
      rw [← Hb.out.cell (block_lt_of_cell c1)] at c1
      have HW := Lib.hid (Opt.wires_snoc os k hlt)
      have hwl := Opt.wires_take_le os k
      obtain ⟨hz, hd⟩ := HGD.out os[k] (List.getElem_mem hlt)
      generalize os[k] = o at *
      obtain ⟨z, d⟩ := o
      dsimp only at c0 c1 hz hd
      obtain ⟨o8, ho8⟩ : ∃ o8, o8 = off + 2 * k := ⟨_, rfl⟩
      rw [← ho8] at hi c0 c1
      clear ho8
      generalize Opt.wires (os.take k) = wl at *
      have HBa := Lib.hid (Lib.IsBuilderF.alloc HB.out (.cells #[.int .i64 z, .string ⟨d.toArray⟩] 46))
      have Hba := Lib.hid (Hb.out.alloc Hb.out.size (.cells #[.int .i64 z, .string ⟨d.toArray⟩] 46))
      have HX := Lib.hid (heap_alloc_new wr (.cells #[.int .i64 z, .string ⟨d.toArray⟩] 46))
      have hne : wr.heap.size ≠ w1.heap.size := by
        intro e
        rcases HB.out with h | h
        · have := h.lt; omega
        · have := h.lt; omega
      have HNE := Lib.hid hne
      clear hne
      go_wp2_with fail
      (with_reducible refine (Try.kByte w1.heap.size w1.heap.size wl (UInt8.ofNat z.toNat) _ _ HBa.out (kind_byte z hz) (by omega) Hba.out.size).mono ?_)
      rintro e w2 ⟨rfl, hI2, hb2, ho2⟩
      have HX2 := Lib.hid (ho2.block HX.out HNE.out (by decide))
      have HB2 := Lib.hid hI2
      have Hb2 := Lib.hid (Hba.out.trans hb2)
      have k1 : w2.cell? ⟨wr.heap.size, 1, none⟩ = some (.string ⟨d.toArray⟩) := by rw [Lib.cell_of_heap HX2.out]; rfl
      have HK1 := Lib.hid k1
      clear hI2 hb2 ho2 c0 c1
      go_wp2_with fail
      (with_reducible refine (Try.kByte w1.heap.size w1.heap.size _ (UInt8.ofNat (d.length + 2)) _ _ HB2.out (len_byte d.length hd) (by simp; omega) Hb2.out.size).mono ?_)
      rintro e w3 ⟨rfl, hI3, hb3, ho3⟩
      have HX3 := Lib.hid (ho3.block HX2.out HNE.out (by decide))
      have HB3 := Lib.hid hI3
      have Hb3 := Lib.hid (Hb2.out.trans hb3)
      have k1 : w3.cell? ⟨wr.heap.size, 1, none⟩ = some (.string ⟨d.toArray⟩) := by rw [Lib.cell_of_heap HX3.out]; rfl
      clear hI3 hb3 ho3
      go_wp2_with fail
      refine (Try.kText w1.heap.size w1.heap.size _ d _ HB3.out (by simp; omega) Hb3.out.size).mono ?_
      rintro e w4 ⟨rfl, hI4, hb4, ho4⟩
      have HB4 := Lib.hid hI4
      have Hb4 := Lib.hid (Hb3.out.trans hb4)
      clear hI4 hb4 ho4 k1
      go_wp2_with fail
      go_roundw
      case rel => exact ⟨k + 1, by omega, by go_num, by rw [HW.out]; have := HB4.out; simp only [List.append_assoc] at this; exact this, Hb4.out⟩
      case measure => simp [intOf]; omega
    · obtain rfl : k = os.length := by omega
      go_wp2_with fail
      refine (Try.kAll w1.heap.size w1.heap.size _ _ HB.out Hb.out.size).mono ?_
      rintro e w2 ⟨rfl, hb2⟩
      have Hb2 := Lib.hid (Hb.out.trans hb2)
      clear hb2
      go_wp2_with fail
      go_ret2
      exact ⟨rfl, bel2 HB1.out Hb2.out⟩
set_option maxHeartbeats 400000 in
theorem put_bad_any (v : Value) (os : List Opt.Op) (w : World) (hr : ReadsO w v os) (hl : os.length ≤ 4611686018427387904) (h0 : Opt.code os ≠ 0) :
    Calls Try.prog 18 #[v] w fun e w' => e = .returned (.tuple #[.string ⟨#[]⟩, .int .i64 (Opt.code os)]) ∧ Below w.heap.size w w' := by
  have J := Lib.hid (judge_any v os w hr hl)
  have hq : (Opt.code os != 0) = true := by simpa using h0
  generalize Opt.code os = c at *
  clear h0 hr
  go_enter Try.func18, Try.ntmps18
  go_wp2_with fail
  refine J.out.mono ?_
  rintro e w1 ⟨rfl, hb1⟩
  have HB1 := Lib.hid hb1
  clear hb1
  go_wp2_with fail
  go_ret2
  exact ⟨rfl, HB1.out⟩
/-- The contract of Put. -/
theorem oput_any (v : Value) (os : List Opt.Op) (w : World) (hr : ReadsO w v os) (hl : os.length ≤ 4611686018427387904) :
    Calls Try.prog 18 #[v] w fun e w' => e = .returned (.tuple #[.string ⟨(Opt.put os).toArray⟩, .int .i64 (Opt.code os)]) ∧ Below w.heap.size w w' := by
  unfold Opt.put
  by_cases h : Opt.code os = 0
  · rw [if_pos h, h]
    exact put_good_any v os w hr hl h
  · rw [if_neg h]
    exact put_bad_any v os w hr hl h
end Go.Proofs.Ytmonoicdejallaa.O
