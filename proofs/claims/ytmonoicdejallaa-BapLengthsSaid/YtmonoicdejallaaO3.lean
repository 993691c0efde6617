/-
  Contract of the document's own Opts.
-/
import Derived.Test.YtmonoicdejallaaO1
import Derived.Laws.Concat
import Derived.BigRegion
import Derived.Deep.QuietTactic
import Derived.BigQuiet
namespace Go.Proofs.Ytmonoicdejallaa.O
open Go.RowKit
/-- One text behind the other. -/
abbrev Sums (a b c : List UInt8) : Prop := ∀ W : World, (Op.stringOp .add { data := a.toArray } { data := b.toArray }).run Try.prog W = .ok (.string { data := c.toArray }) W
theorem sums (a b : List UInt8) (h : a.length + b.length ≤ 9223372036854775807) : Sums a b (a ++ b) := fun W => by
  rw [run_string_add_sum W _ _ (by simp [ByteArray.size]; omega), ByteArray.mk_append_mk]
theorem two_cells (z : Int) (n : Nat) (h : 0 ≤ z ∧ z ≤ 255) : (#[Value.int .u8 z, Value.int .u8 (((n : Int) + 2) % 256)] : Array Value) = (Lib.byteCells [UInt8.ofNat z.toNat, UInt8.ofNat (n + 2)]).toArray := by
  have h1 : ((UInt8.ofNat z.toNat).toNat : Int) = z := by simp; omega
  have h2 : ((UInt8.ofNat (n + 2)).toNat : Int) = ((n : Int) + 2) % 256 := by simp
  simp only [Lib.byteCells, List.map_cons, List.map_nil, h1, h2]
/-- Bytes just laid in a block, as a text, behind a draw. -/
theorem conv_drew (w : World) (l : List UInt8) (cells : Array Value) (h : cells = (Lib.byteCells l).toArray) :
    (convert 43 9 (.slice (some ⟨w.heap.size, 0, none⟩) l.length l.length)).run Try.prog (w.alloc (.cells cells 5)).drew = .ok (.string ⟨l.toArray⟩) (w.alloc (.cells cells 5)).drew := by
  subst h
  refine run_convert_bytes_back _ 43 9 5 _ _ l Try.underlying43 Try.underlying5 Try.underlying9 ?_
  intro j hj
  exact new_cells w _ _ _ _ (by simp [Lib.byteCells, hj])
set_option maxRecDepth 100000 in
set_option maxHeartbeats 800000 in
theorem ropts_any (v : Value) (os : List Opt.Op) (w : World) (hr : ReadsO w v os) (hl : os.length ≤ 4611686018427387904) (hd : ∀ o ∈ os, o.2.length ≤ 4611686018427387904) :
    Calls Try.prog 22 #[v] w fun e w' => e = .returned (.tuple #[.string ⟨(Opt.put os).toArray⟩, .int .i64 (Opt.code os)]) ∧ Below w.heap.size w w' := by
  obtain ⟨q, cap, b, off, rfl, _, _, hi, hc⟩ := hr.at
  have HI := Lib.hid hi
  have HC := Lib.hid hc
  have HD := Lib.hid hd
  clear hi hc hr hd
  go_enter Try.func22, Try.ntmps22
  go_wp2_with fail
  go_loopw [6] (fun i wr => ∃ k : Nat, k ≤ os.length ∧ i = .int .i64 k ∧ Below w.heap.size w wr ∧ Hid ((os.take k).all Opt.kindOk = true)) (fun i _ => os.length - (intOf i).toNat)
  case atStart => exact ⟨0, Nat.zero_le _, rfl, Below.refl _ _, Lib.hid rfl⟩
  case round =>
    obtain ⟨k, hk, rfl, hb, HA⟩ := hrel
    have HB := Lib.hid hb
    clear hb
    by_cases hlt : k < os.length
    · have hi := HI.out k hlt
      obtain ⟨c0, c1⟩ := HC.out k hlt
      rw [← HB.out.cell (block_lt_of_cell c0)] at c0
      rw [← HB.out.cell (block_lt_of_cell c1)] at c1
      have HT : Hid (Opt.kindOk os[k] = true → (os.take (k + 1)).all Opt.kindOk = true) := Lib.hid fun e => by rw [Opt.take_snoc os k hlt, List.all_append, HA.out]; simp [e]
      have HF : Hid (Opt.kindOk os[k] = false → Opt.code os = 400 ∧ Opt.put os = []) := Lib.hid fun e => by
        have h : Opt.code os = 400 := Opt.code_bad os (List.all_eq_false.2 ⟨_, List.getElem_mem hlt, by rw [e]; simp⟩)
        exact ⟨h, if_neg (by rw [h]; decide)⟩
      generalize os[k] = o at *
      obtain ⟨z, d⟩ := o
      dsimp only at c0 c1
      obtain ⟨o8, ho8⟩ : ∃ o8, o8 = off + 2 * k := ⟨_, rfl⟩
      rw [← ho8] at hi c0 c1
      clear ho8
      by_cases h1 : 0 ≤ z ∧ z ≤ 255
      · have HT2 := Lib.hid (HT.out (by simpa [Opt.kindOk] using h1))
        obtain ⟨h1, h2⟩ := h1
        clear HT HF
        go_wp2_with fail
        go_roundw
        case rel => exact ⟨k + 1, by omega, by go_num, HB.out, HT2⟩
        case measure => simp [intOf]; omega
      · have HF2 := Lib.hid (HF.out (by simpa [Opt.kindOk] using h1))
        clear HT HF
        by_cases h2 : z < 0
        · clear h1
          go_wp2_with fail
          go_ret2
          exact ⟨by rw [HF2.out.1, HF2.out.2]; rfl, HB.out⟩
        · have h3 : 255 < z := by omega
          clear h1
          go_wp2_with fail
          go_ret2
          exact ⟨by rw [HF2.out.1, HF2.out.2]; rfl, HB.out⟩
    · obtain rfl : k = os.length := by omega
      have HK : Hid (os.all Opt.kindOk = true) := Lib.hid (by have := HA.out; rwa [List.take_length] at this)
      clear HA
      go_wp2_with fail
      go_loopw [4, 5, 7] (fun lg s i wr => ∃ k : Nat, k ≤ os.length ∧ i = .int .i64 k ∧ s = .string ⟨(Opt.wires (os.take k)).toArray⟩ ∧ lg = .bool (!(Opt.fits (os.take k))) ∧ Below w.heap.size w wr) (fun _ _ i _ => os.length - (intOf i).toNat)
      case atStart => exact ⟨0, Nat.zero_le _, rfl, rfl, rfl, HB.out⟩
      case round =>
        obtain ⟨k, hk, rfl, rfl, rfl, hb⟩ := hrel
        clear HB
        have HB := Lib.hid hb
        clear hb
        have HFI := Lib.hid (Opt.fits_take os k)
        cases hfk : Opt.fits (os.take k)
        · have HR : Hid (Opt.code os = 401 ∧ Opt.put os = []) := Lib.hid (by
            have hf := HFI.out hfk
            have h : Opt.code os = 401 := by unfold Opt.code; rw [HK.out, hf]; rfl
            exact ⟨h, if_neg (by rw [h]; decide)⟩)
          clear hfk
          by_cases hlt : k < os.length
          all_goals
            go_wp2_with fail
            go_ret2
            exact ⟨by rw [HR.out.1, HR.out.2]; rfl, HB.out⟩
        · have HFK := Lib.hid hfk
          clear hfk
          by_cases hlt : k < os.length
          · have hn := (Opt.fits_short _ HFK.out).2
            have hi := HI.out k hlt
            obtain ⟨c0, c1⟩ := HC.out k hlt
            rw [← HB.out.cell (block_lt_of_cell c0)] at c0
            rw [← HB.out.cell (block_lt_of_cell c1)] at c1
            have hblk : b < wr.heap.size := block_lt_of_cell c0
            have HW := Lib.hid (Opt.wires_snoc os k hlt)
            have HN := Lib.hid (Opt.fits_snoc os k hlt)
            have HS := Lib.hid (Opt.fits_short _ HFK.out).1
            have hkz : 0 ≤ os[k].1 ∧ os[k].1 ≤ 255 := by simpa [Opt.kindOk] using List.all_eq_true.1 HK.out _ (List.getElem_mem hlt)
            have hdl := HD.out _ (List.getElem_mem hlt)
            generalize os[k] = o at *
            obtain ⟨z, d⟩ := o
            dsimp only at c0 c1 hkz hdl
            obtain ⟨o8, ho8⟩ : ∃ o8, o8 = off + 2 * k := ⟨_, rfl⟩
            rw [← ho8] at hi c0 c1
            clear ho8
            generalize Opt.wires (os.take k) = wl at *
            obtain ⟨T, hT⟩ : ∃ T, T = [UInt8.ofNat z.toNat, UInt8.ofNat (d.length + 2)] := ⟨_, rfl⟩
            have hTl : T.length = 2 := by rw [hT]; rfl
            have hcv := conv_drew wr T _ (hT ▸ two_cells z d.length hkz)
            rw [hTl] at hcv
            obtain ⟨wl2, hwl2⟩ : ∃ wl2, wl2 = wl ++ T := ⟨_, rfl⟩
            have r1 := sums wl T (by omega)
            rw [← hwl2] at r1
            have h2l : wl2.length = wl.length + 2 := by rw [hwl2, List.length_append, hTl]
            have r2 := sums wl2 d (by omega)
            obtain ⟨wl3, hwl3⟩ : ∃ wl3, wl3 = wl2 ++ d := ⟨_, rfl⟩
            rw [← hwl3] at r2
            have hl3 : wl3.length = wl.length + (d.length + 2) := by rw [hwl3, List.length_append, h2l]; omega
            have HW4 : Hid (Opt.wires (os.take (k + 1)) = wl3) := Lib.hid (by rw [HW.out, hwl3, hwl2, hT]; simp [Opt.one])
            have HL3 := Lib.hid hl3
            unfold Sums at r1 r2
            clear hwl2 hwl3 hl3 hT hTl h2l HW
            obtain ⟨hk1, hk2⟩ := hkz
            have hg3 : wl3.length ≤ 9223372036854775807 := by rw [HL3.out]; omega
            by_cases hlong : 253 < d.length
            · have HN2 : Hid (Opt.fits (os.take (k + 1)) = false) := Lib.hid (by rw [HN.out]; have : Opt.short (z, d) = false := decide_eq_false (by show ¬ d.length ≤ 253; omega); rw [this]; simp)
              clear HN
              go_wp2_with fail
              go_region
              go_wp2_with fail
              go_roundw
              case rel => exact ⟨k + 1, by omega, by go_num, by rw [HW4.out], by rw [HN2.out]; rfl, (HB.out.alloc HB.out.size _).drew⟩
              case measure => simp [intOf]; omega
            · rw [show (d.length : Int) + 2 = ((d.length + 2 : Nat) : Int) by omega, show (((d.length + 2 : Nat) : Int)) % 256 = (d.length : Int) + 2 by omega] at hcv
              by_cases hover : 2048 < wl3.length
              · have HN2 : Hid (Opt.fits (os.take (k + 1)) = false) := Lib.hid (by rw [HN.out, decide_eq_false (by have := HL3.out; show ¬ wl.length + (d.length + 2) ≤ 2048; omega), Bool.and_false])
                clear HN
                go_wp2_with fail
                go_region
                go_wp2_with fail
                go_roundw
                case rel => exact ⟨k + 1, by omega, by go_num, by rw [HW4.out], by rw [HN2.out, decide_eq_false (show ¬ (253 : Int) < (d.length : Int) by omega), decide_eq_true (show (2048 : Int) < (wl3.length : Int) by omega)]; rfl, (HB.out.alloc HB.out.size _).drew⟩
                case measure => simp [intOf]; omega
              · have HN2 : Hid (Opt.fits (os.take (k + 1)) = true) := Lib.hid (by
                  have h1 : Opt.short (z, d) = true := decide_eq_true (by show d.length ≤ 253; omega)
                  rw [HN.out, decide_eq_true (by have := HL3.out; show wl.length + (d.length + 2) ≤ 2048; omega), h1, HS.out]; rfl)
                clear HN
                go_wp2_with fail
                go_region
                go_wp2_with fail
                go_roundw
                case rel => exact ⟨k + 1, by omega, by go_num, by rw [HW4.out], by rw [HN2.out, decide_eq_false (show ¬ (253 : Int) < (d.length : Int) by omega), decide_eq_false (show ¬ (2048 : Int) < (wl3.length : Int) by omega)]; rfl, (HB.out.alloc HB.out.size _).drew⟩
                case measure => simp [intOf]; omega
          · obtain rfl : k = os.length := by omega
            have HR : Hid (Opt.code os = 0 ∧ Opt.put os = Opt.wires (os.take os.length)) := Lib.hid (by
              have hf := HFK.out
              rw [List.take_length] at hf ⊢
              have h : Opt.code os = 0 := Opt.code_good os HK.out hf
              exact ⟨h, if_pos h⟩)
            go_wp2_with fail
            go_ret2
            exact ⟨by rw [HR.out.1, HR.out.2]; rfl, HB.out⟩
end Go.Proofs.Ytmonoicdejallaa.O
