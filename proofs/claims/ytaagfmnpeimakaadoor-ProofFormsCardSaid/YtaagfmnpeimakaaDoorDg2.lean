/-
  The document's MD5: a block's words.
-/
import Derived.Test.YtaagfmnpeimakaaDoorDg1
import Derived.StillTailTactics
import Derived.Deep.DeepCutAuto
import Derived.Deep.CutBlock
namespace Go.Proofs.YtaagfmnpeimakaaDoor.Dig
/-- So many of the words are there. -/
def some_words (b : List UInt8) (k : Nat) : List (BitVec 32) := (List.range 16).map fun i => if i < k then word b i else 0
theorem some_none (b : List UInt8) : some_words b 0 = List.replicate 16 0 := rfl
theorem some_all (b : List UInt8) : some_words b 16 = words b := by
  unfold some_words words
  refine List.map_congr_left fun i hi => ?_
  rw [if_pos (List.mem_range.1 hi)]
theorem some_length (b : List UInt8) (k : Nat) : (some_words b k).length = 16 := by simp [some_words]
theorem some_set (b : List UInt8) (k : Nat) : (some_words b k).set k (word b k) = some_words b (k + 1) := by
  apply List.ext_getElem?
  intro i
  rw [List.getElem?_set]
  unfold some_words
  by_cases h : k = i
  · subst h
    rw [if_pos rfl]
    by_cases h2 : k < 16
    · simp [h2]
    · simp [h2]
  · rw [if_neg h]
    by_cases h2 : i < 16
    · have e : (i < k) = (i < k + 1) := by rw [eq_iff_iff]; omega
      simp [h2, e]
    · simp [h2]
end Go.Proofs.YtaagfmnpeimakaaDoor.Dig
namespace Go.Proofs.YtaagfmnpeimakaaDoor.Dg
open Go.RowKit
theorem addB (b off j : Nat) : (⟨b, off, none⟩ : Addr).add j = ⟨b, off + j, none⟩ := by unfold Addr.add; split <;> simp_all
set_option maxRecDepth 100000 in
theorem indexB (b off n cap k : Nat) (hk : k < n) (W : World) : (Instr.indexAt 58 (.slice (some ⟨b, off, none⟩) n cap) (.int .i64 (k : Int))).run Tryd.prog W = .ok (.pointer (some ⟨b, off + k, none⟩)) W := by
  have hs : (sizeOf (Tryd.prog.elem 58)).run Tryd.prog W = .ok 1 W := Tryd.sizeOf5 W
  have e := run_indexAt_slice (P := Tryd.prog) W 58 ⟨b, off, none⟩ n cap .i64 (k : Int) Tryd.underlying58
  rw [if_pos (by omega), hs] at e
  simp only [Result.andThen, Int.toNat_natCast] at e
  rw [e, Nat.mul_one, addB]
/-- A slice of bytes that reads as these. -/
def ReadsB (W : World) (G o : Nat) (b : List UInt8) : Prop := ∀ j, j < b.length → W.cell? ⟨G, o + j, none⟩ = some (.int .u8 ((b.getD j 0).toNat : Int))
theorem word_spell (b : List UInt8) (k : Nat) (y0 y1 y2 y3 : UInt8) (h0 : b.getD (4 * k) 0 = y0) (h1 : b.getD (4 * k + 1) 0 = y1) (h2 : b.getD (4 * k + 2) 0 = y2) (h3 : b.getD (4 * k + 3) 0 = y3) :
    bits .or .u32 (bits .or .u32 (bits .or .u32 (IntKind.u32.wrap (y0.toNat : Int)) (IntKind.u32.wrap (IntKind.u32.wrap (y1.toNat : Int) * 256))) (IntKind.u32.wrap (IntKind.u32.wrap (y2.toNat : Int) * 65536))) (IntKind.u32.wrap (IntKind.u32.wrap (y3.toNat : Int) * 16777216)) = ((Dig.word b k).toNat : Int) := by
  have hw : ∀ y : UInt8, IntKind.u32.wrap (y.toNat : Int) = ((BitVec.ofNat 32 y.toNat).toNat : Int) := fun y => by
    have := y.toNat_lt
    rw [← w_byte, IntKind.wrap_u32']
    omega
  subst h0 h1 h2 h3
  rw [hw, hw, hw, hw]
  have e1 := w_shl (BitVec.ofNat 32 (b.getD (4 * k + 1) 0).toNat) 8
  have e2 := w_shl (BitVec.ofNat 32 (b.getD (4 * k + 2) 0).toNat) 16
  have e3 := w_shl (BitVec.ofNat 32 (b.getD (4 * k + 3) 0).toNat) 24
  rw [show (2 : Int) ^ 8 = 256 from rfl] at e1
  rw [show (2 : Int) ^ 16 = 65536 from rfl] at e2
  rw [show (2 : Int) ^ 24 = 16777216 from rfl] at e3
  rw [e1, e2, e3, w_or, w_or, w_or]
  rfl
theorem grown_cells {w wr : World} {G : Nat} (hb : Below w.heap.size w wr) (u0 u1 u2 u3 : Value) : w.grownBy ((((wr.setCell ⟨G, 0, none⟩ u0).setCell ⟨G, 1, none⟩ u1).setCell ⟨G, 2, none⟩ u2).setCell ⟨G, 3, none⟩ u3) (some G) :=
  ⟨hb.os, hb.tape, hb.output, by simpa using hb.size, fun k hk hne => by
    have ne : k ≠ G := fun e => hne (by rw [e])
    rw [Below.heap_setCell _ ⟨G, 3, none⟩ u3 k ne, Below.heap_setCell _ ⟨G, 2, none⟩ u2 k ne, Below.heap_setCell _ ⟨G, 1, none⟩ u1 k ne, Below.heap_setCell _ ⟨G, 0, none⟩ u0 k ne]
    exact hb.block k hk⟩
theorem four_sets {base G cap : Nat} {wr : World} {p q r s : Wrd} (h : RowW base wr (.slice (some ⟨G, 0, none⟩) 4 cap) [p, q, r, s]) (a x c d : Wrd) :
    RowW base ((((wr.setCell ⟨G, 0, none⟩ (.int .u32 (((p.toNat : Int) + a.toNat) % 4294967296))).setCell ⟨G, 1, none⟩ (.int .u32 (((q.toNat : Int) + x.toNat) % 4294967296))).setCell ⟨G, 2, none⟩ (.int .u32 (((r.toNat : Int) + c.toNat) % 4294967296))).setCell ⟨G, 3, none⟩ (.int .u32 (((s.toNat : Int) + d.toNat) % 4294967296)))
      (.slice (some ⟨G, 0, none⟩) 4 cap) [p + a, q + x, r + c, s + d] := by
  have e := fun a b : Wrd => w_add a b
  simp only [IntKind.wrap_u32'] at e
  rw [e, e, e, e]
  exact RowW.set (A := [p + a, q + x, r + c, s]) (RowW.set (A := [p + a, q + x, r, s]) (RowW.set (A := [p + a, q, r, s]) (RowW.set (A := [p, q, r, s]) h 0 (p + a)) 1 (q + x)) 2 (r + c)) 3 (s + d)
theorem roll_spell (x F : Wrd) (r : Nat) : ((x.toNat : Int) + bits BinOp.or IntKind.u32 ((F.toNat : Int) * 2 ^ r % 4294967296) ((F.toNat : Int) / 2 ^ (32 - r))) % 4294967296 = ((x + Dig.rolled F r).toNat : Int) := by
  have h1 := w_shl F r
  rw [IntKind.wrap_u32'] at h1
  rw [h1, w_shr F (32 - r), w_or, ← w_add, IntKind.wrap_u32']
  rfl
set_option maxRecDepth 100000 in
set_option maxHeartbeats 3200000 in
theorem block_any (Gh G2 o2 Gk caph cap2 capk base bk : Nat) (h : Dig.St) (b : List UInt8) (w : World) (hl : b.length = 64)
    (H : Hid (RowW base w (.slice (some ⟨Gh, 0, none⟩) 4 caph) [h.a, h.x, h.c, h.d])) (BY : Hid (ReadsB w G2 o2 b)) (K : Hid (RowW bk w (.slice (some ⟨Gk, 0, none⟩) 64 capk) Dig.sines)) :
    Calls Tryd.prog 41 #[.slice (some ⟨Gh, 0, none⟩) 4 caph, .slice (some ⟨G2, o2, none⟩) 64 cap2, .slice (some ⟨Gk, 0, none⟩) 64 capk] w fun e w' => e = .returned (.tuple #[]) ∧ RowW base w' (.slice (some ⟨Gh, 0, none⟩) 4 caph) [(Dig.block h b).a, (Dig.block h b).x, (Dig.block h b).c, (Dig.block h b).d] ∧ w.grownBy w' (some Gh) := by
  have MK := fun W => make_words 16 (by decide) W
  have e16 : ((16 : Nat) : Int) = 16 := rfl
  rw [e16] at MK
  have HM : Hid (RowW w.heap.size (w.alloc (.cells (cellsW (List.replicate 16 0)).toArray 76)) (.slice (some ⟨w.heap.size, 0, none⟩) 16 16) (Dig.some_words b 0)) := Lib.hid (RowW.laid w _ (Nat.le_refl _) (List.replicate 16 0) (by decide) _ rfl)
  have HB0 := Lib.hid ((Below.refl w.heap.size w).alloc (Nat.le_refl _) (.cells (cellsW (List.replicate 16 0)).toArray 76))
  generalize hC : (cellsW (List.replicate 16 0)).toArray = C at *
  clear hC
  go_enter Tryd.func41, Tryd.ntmps41
  go_wp2_with fail
  go_loopw [7] (fun i wr => ∃ k : Nat, k ≤ 16 ∧ i = .int .i64 (k : Int) ∧ RowW w.heap.size wr (.slice (some ⟨w.heap.size, 0, none⟩) 16 16) (Dig.some_words b k) ∧ Below w.heap.size w wr) (fun i _ => 16 - (intOf i).toNat)
  case atStart => exact ⟨0, by omega, rfl, HM.out, HB0.out⟩
  case round =>
    obtain ⟨k, hk, rfl, hrow, hb⟩ := hrel
    have HR := Lib.hid hrow
    have HB := Lib.hid hb
    clear hrow hb
    by_cases hlt : k < 16
    · have c0 := BY.out (4 * k) (by omega)
      have c1 := BY.out (4 * k + 1) (by omega)
      have c2 := BY.out (4 * k + 2) (by omega)
      have c3 := BY.out (4 * k + 3) (by omega)
      rw [← HB.out.cell (p := ⟨G2, _, none⟩) (block_lt_of_cell c0)] at c0
      rw [← HB.out.cell (p := ⟨G2, _, none⟩) (block_lt_of_cell c1)] at c1
      rw [← HB.out.cell (p := ⟨G2, _, none⟩) (block_lt_of_cell c2)] at c2
      rw [← HB.out.cell (p := ⟨G2, _, none⟩) (block_lt_of_cell c3)] at c3
      have im := indexW w.heap.size 16 16 k hlt
      have m1 := HR.out.cell k (by rw [Dig.some_length]; exact hlt)
      have hr2 := HR.out
      have fz := fun o => RowW.frozen (g := w.heap.size) (cap := 16) (A := Dig.some_words b k) (by rw [Dig.some_length]; exact hr2) o
      have hs1 := RowW.set (g := w.heap.size) (cap := 16) (A := Dig.some_words b k) (by rw [Dig.some_length]; exact hr2) k (Dig.word b k)
      rw [Dig.some_length, Dig.some_set] at hs1
      have HS : Hid (RowW w.heap.size (wr.drew.setCell ⟨w.heap.size, k, none⟩ (.int .u32 ((Dig.word b k).toNat : Int))) (.slice (some ⟨w.heap.size, 0, none⟩) 16 16) (Dig.some_words b (k + 1)) ∧ Below w.heap.size w (wr.drew.setCell ⟨w.heap.size, k, none⟩ (.int .u32 ((Dig.word b k).toNat : Int)))) := Lib.hid ⟨hs1, Below.setCell HB.out.drew (Nat.le_refl _) _⟩
      clear hr2 hs1
      obtain ⟨j0, hj0⟩ : ∃ j0, j0 = 4 * k := ⟨_, rfl⟩
      obtain ⟨j1, hj1⟩ : ∃ j1, j1 = 4 * k + 1 := ⟨_, rfl⟩
      obtain ⟨j2, hj2⟩ : ∃ j2, j2 = 4 * k + 2 := ⟨_, rfl⟩
      obtain ⟨j3, hj3⟩ : ∃ j3, j3 = 4 * k + 3 := ⟨_, rfl⟩
      have w0 : IntKind.i64.wrap (4 * (k : Int)) = (j0 : Int) := by rw [IntWalk.i64_in _ ⟨by omega, by omega⟩]; omega
      have w1 : IntKind.i64.wrap ((j0 : Int) + 1) = (j1 : Int) := by rw [IntWalk.i64_in _ ⟨by omega, by omega⟩]; omega
      have w2 : IntKind.i64.wrap ((j0 : Int) + 2) = (j2 : Int) := by rw [IntWalk.i64_in _ ⟨by omega, by omega⟩]; omega
      have w3 : IntKind.i64.wrap ((j0 : Int) + 3) = (j3 : Int) := by rw [IntWalk.i64_in _ ⟨by omega, by omega⟩]; omega
      have i0 := indexB G2 o2 64 cap2 j0 (by omega)
      have i1 := indexB G2 o2 64 cap2 j1 (by omega)
      have i2 := indexB G2 o2 64 cap2 j2 (by omega)
      have i3 := indexB G2 o2 64 cap2 j3 (by omega)
      have hw := word_spell b k _ _ _ _ rfl rfl rfl rfl
      rw [← hj1] at c1 hw
      rw [← hj2] at c2 hw
      rw [← hj3] at c3 hw
      rw [← hj0] at c0 hw
      clear hj0 hj1 hj2 hj3
      generalize b.getD j0 0 = y0 at *
      generalize b.getD j1 0 = y1 at *
      generalize b.getD j2 0 = y2 at *
      generalize b.getD j3 0 = y3 at *
      go_wp2_with fail
      go_still_tail 36, (by kernel_rfl)
      change wpList _ _ _ _ _ (World.drew _)
      go_wp2_with fail
      go_roundw
      case rel => exact ⟨k + 1, by omega, by go_num, HS.out.1, HS.out.2⟩
      case measure => simp [intOf]; omega
    · obtain rfl : k = 16 := by omega
      have hrm := HR.out
      rw [Dig.some_all] at hrm
      have HRM := Lib.hid hrm
      have hh := H.out.below HB.out
      have c0 := hh.cell 0 (by simp)
      have c1 := hh.cell 1 (by simp)
      have c2 := hh.cell 2 (by simp)
      have c3 := hh.cell 3 (by simp)
      simp only [List.getD_cons_zero, List.getD_cons_succ] at c0 c1 c2 c3
      have i0 := indexW Gh 4 caph 0 (by decide)
      have i1 := indexW Gh 4 caph 1 (by decide)
      have i2 := indexW Gh 4 caph 2 (by decide)
      have i3 := indexW Gh 4 caph 3 (by decide)
      clear hh hrm HR
      go_wp2_with fail
      go_quiet (fail)
      obtain ⟨wq, hwq⟩ : ∃ wq, wq = wr.drewN nq := ⟨_, rfl⟩
      have HBQ := Lib.hid (HB.out.trans (hwq ▸ below_drewN (Below.refl _ _) nq))
      have HRQ := Lib.hid (HRM.out.below (hwq ▸ below_drewN (Below.refl _ _) nq))
      rw [← hwq]
      clear hwq c0 c1 c2 c3 HRM HB
      generalize hM : Dig.words b = M at *
      have HM2 := Lib.hid hM
      have hMl : M.length = 16 := by rw [← hM]; simp [Dig.words]
      clear hM
      go_wp2_with fail
      simp only [e16]
      go_loopw [8, 9, 10, 11, 12] (fun s8 s9 s10 s11 s12 wr => ∃ n : Nat, n ≤ 64 ∧ s12 = .int .i64 (n : Int) ∧ s8 = .int .u32 ((Dig.run M h n).a.toNat : Int) ∧ s9 = .int .u32 ((Dig.run M h n).x.toNat : Int) ∧ s10 = .int .u32 ((Dig.run M h n).c.toNat : Int) ∧ s11 = .int .u32 ((Dig.run M h n).d.toNat : Int) ∧ RowW w.heap.size wr (.slice (some ⟨w.heap.size, 0, none⟩) 16 16) M ∧ Below w.heap.size w wr) (fun _ _ _ _ s12 _ => 64 - (intOf s12).toNat)
      case atStart => exact ⟨0, by omega, rfl, rfl, rfl, rfl, rfl, HRQ.out, HBQ.out⟩
      case round =>
        clear HRQ HBQ
        obtain ⟨n, hn, rfl, rfl, rfl, rfl, rfl, hrow, hb⟩ := hrel
        have HR := Lib.hid hrow
        have HB := Lib.hid hb
        clear hrow hb
        by_cases hlt2 : n < 64
        · have HS : Hid (Dig.run M h (n + 1) = Dig.step M n (Dig.run M h n)) := Lib.hid rfl
          generalize Dig.run M h n = s at *
          obtain ⟨a, x, c, d⟩ := s
          simp only at *
          have q1 : decide ((n : Int) < 64) = true := decide_eq_true (by omega)
          go_upto_block 4 with (fail)
          go_cut [13, 14] (fun s13 s14 wx => s13 = .int .u32 ((Dig.mix n x c d).toNat : Int) ∧ s14 = .int .i64 (Dig.pick n : Int) ∧ wr = wx)
          case first =>
            have hway : n / 16 = 0 ∨ n / 16 = 1 ∨ n / 16 = 2 ∨ n / 16 = 3 := by omega
            rcases hway with h | h | h | h
            · have HM3 : Hid (Dig.mix n x c d = (x &&& c) ||| ((x ^^^ 4294967295#32) &&& d) ∧ Dig.pick n = n) := Lib.hid (by unfold Dig.mix Dig.pick; rw [h]; exact ⟨rfl, rfl⟩)
              have t0 : ((n : Int) / 16 == 0) = true := by rw [beq_iff_eq]; omega
              clear h
              go_wp2_with fail
              go_meet
              case rel =>
                rw [HM3.out.1, HM3.out.2]
                exact ⟨by rw [w_and, w_not, w_and, w_or], congrArg (Value.int .i64) (by omega), rfl⟩
            · have HM3 : Hid (Dig.mix n x c d = (d &&& x) ||| ((d ^^^ 4294967295#32) &&& c) ∧ Dig.pick n = (5 * n + 1) % 16) := Lib.hid (by unfold Dig.mix Dig.pick; rw [h]; exact ⟨rfl, rfl⟩)
              have t0 : ((n : Int) / 16 == 0) = false := by rw [beq_eq_false_iff_ne]; omega
              have t1 : ((n : Int) / 16 == 1) = true := by rw [beq_iff_eq]; omega
              clear h
              go_wp2_with fail
              go_meet
              case rel =>
                rw [HM3.out.1, HM3.out.2]
                exact ⟨by rw [w_and, w_not, w_and, w_or], congrArg (Value.int .i64) (by omega), rfl⟩
            · have HM3 : Hid (Dig.mix n x c d = x ^^^ c ^^^ d ∧ Dig.pick n = (3 * n + 5) % 16) := Lib.hid (by unfold Dig.mix Dig.pick; rw [h]; exact ⟨rfl, rfl⟩)
              have t0 : ((n : Int) / 16 == 0) = false := by rw [beq_eq_false_iff_ne]; omega
              have t1 : ((n : Int) / 16 == 1) = false := by rw [beq_eq_false_iff_ne]; omega
              have t2 : ((n : Int) / 16 == 2) = true := by rw [beq_iff_eq]; omega
              clear h
              go_wp2_with fail
              go_meet
              case rel =>
                rw [HM3.out.1, HM3.out.2]
                exact ⟨by rw [w_xor, w_xor], congrArg (Value.int .i64) (by omega), rfl⟩
            · have HM3 : Hid (Dig.mix n x c d = c ^^^ (x ||| (d ^^^ 4294967295#32)) ∧ Dig.pick n = 7 * n % 16) := Lib.hid (by unfold Dig.mix Dig.pick; rw [h]; exact ⟨rfl, rfl⟩)
              have t0 : ((n : Int) / 16 == 0) = false := by rw [beq_eq_false_iff_ne]; omega
              have t1 : ((n : Int) / 16 == 1) = false := by rw [beq_eq_false_iff_ne]; omega
              have t2 : ((n : Int) / 16 == 2) = false := by rw [beq_eq_false_iff_ne]; omega
              clear h
              go_wp2_with fail
              go_meet
              case rel =>
                rw [HM3.out.1, HM3.out.2]
                exact ⟨by rw [w_not, w_or, w_xor], congrArg (Value.int .i64) (by omega), rfl⟩
          case rest =>
            obtain ⟨rfl, rfl, rfl⟩ := hcut
            have hp16 : Dig.pick n < 16 := by unfold Dig.pick; split <;> omega
            generalize hf : Dig.mix n x c d = f at *
            generalize hg : Dig.pick n = g at *
            have ik := indexW Gk 64 capk n hlt2
            have im := indexW w.heap.size 16 16 g hp16
            have ck := (K.out.below HB.out).cell n hlt2
            have cm := HR.out.cell g (by omega)
            have HT := Lib.hid fun W => turns_any n hlt2 W
            have hlt3 : Dig.turn n < 32 := by
              have : ∀ i : Fin 64, Dig.turn i.val < 32 := by decide +kernel
              exact this ⟨n, hlt2⟩
            have HS2 : Hid (Dig.run M h (n + 1) = ⟨d, x + Dig.rolled (f + a + Dig.sines.getD n 0 + M.getD g 0) (Dig.turn n), x, c⟩) := Lib.hid (by rw [HS.out]; unfold Dig.step; simp only [hf, hg])
            generalize Dig.sines.getD n 0 = kk at *
            generalize M.getD g 0 = mm at *
            generalize Dig.turn n = r at *
            clear hf hg HS
            obtain ⟨F, hF⟩ : ∃ F, F = f + a + kk + mm := ⟨_, rfl⟩
            rw [← hF] at HS2
            have e18 : (((f.toNat : Int) + a.toNat + kk.toNat) % 4294967296 + mm.toNat) % 4294967296 = (F.toNat : Int) := by
              rw [hF]
              simp only [BitVec.toNat_add]
              omega
            go_wp2_with fail
            go_quiet (fail)
            obtain ⟨w5, hw5⟩ : ∃ w5, w5 = wr.drewN nq := ⟨_, rfl⟩
            have HB5 := Lib.hid (HB.out.trans (hw5 ▸ below_drewN (Below.refl _ _) nq))
            have HR5 := Lib.hid (HR.out.below (hw5 ▸ below_drewN (Below.refl _ _) nq))
            rw [← hw5, e18]
            clear hw5 ik im ck cm e18 hF HB HR
            go_wp2_with fail
            refine (HT.out _).mono ?_
            rintro e w6 ⟨rfl, hb6⟩
            have HB6 := Lib.hid (bel2 HB5.out hb6)
            have HR6 := Lib.hid (HR5.out.below hb6)
            clear hb6 HB5 HR5 HT
            go_wp2_with fail
            go_quiet (fail)
            have e23 := roll_spell x F r
            obtain ⟨w7, hw7⟩ : ∃ w7, w7 = w6.drewN nq := ⟨_, rfl⟩
            have HB7 := Lib.hid (HB6.out.trans (hw7 ▸ below_drewN (Below.refl _ _) nq))
            have HR7 := Lib.hid (HR6.out.below (hw7 ▸ below_drewN (Below.refl _ _) nq))
            rw [← hw7, e23]
            clear hw7 e23 HB6 HR6
            go_wp2_with fail
            go_roundw
            case rel => exact ⟨n + 1, by omega, by go_num, by rw [HS2.out], by rw [HS2.out], by rw [HS2.out], by rw [HS2.out], HR7.out, HB7.out⟩
            case measure => simp [intOf]; omega
        · obtain rfl : n = 64 := by omega
          have HE : Hid (Dig.block h b = Dig.join h (Dig.run M h 64)) := Lib.hid (by unfold Dig.block; rw [HM2.out])
          generalize Dig.run M h 64 = s at *
          obtain ⟨a, x, c, d⟩ := s
          have hh := H.out.below HB.out
          have c0 := hh.cell 0 (by simp)
          have c1 := hh.cell 1 (by simp)
          have c2 := hh.cell 2 (by simp)
          have c3 := hh.cell 3 (by simp)
          simp only [List.getD_cons_zero, List.getD_cons_succ] at c0 c1 c2 c3
          have i0 := indexW Gh 4 caph 0 (by decide)
          have i1 := indexW Gh 4 caph 1 (by decide)
          have i2 := indexW Gh 4 caph 2 (by decide)
          have i3 := indexW Gh 4 caph 3 (by decide)
          have fz := fun o => RowW.frozen (g := Gh) (cap := caph) (A := [h.a, h.x, h.c, h.d]) hh o
          have HH := Lib.hid hh
          clear hh
          go_wp2_with fail
          go_end0
          refine ⟨rfl, ?_, grown_cells HB.out _ _ _ _⟩
          rw [HE.out]
          exact four_sets HH.out a x c d
end Go.Proofs.YtaagfmnpeimakaaDoor.Dg
