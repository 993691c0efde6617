/-
  The document's MD5, any bytes.
-/
import Derived.Test.YtaagfmnpeimakaaDoorDg3
namespace Go.Proofs.YtaagfmnpeimakaaDoor.Dg
open Go.RowKit
theorem row_init (w : World) : RowW w.heap.size (w.alloc (.cells #[.int .u32 1732584193, .int .u32 4023233417, .int .u32 2562383102, .int .u32 271733878] 76)) (.slice (some ⟨w.heap.size, 0, none⟩) 4 4) (Dig.row Dig.init) :=
  RowW.laid w w.heap.size (Nat.le_refl _) (Dig.row Dig.init) (by decide) _ rfl
theorem RowW.down {b b' : Nat} {W : World} {v : Value} {A : List Wrd} (h : RowW b W v A) (hb : b' ≤ b) : RowW b' W v A := by
  refine ⟨h.1, ?_⟩
  rcases h.2 with h | ⟨g, cap, cur, e, h1, h2⟩
  · exact .inl h
  · exact .inr ⟨g, cap, cur, e, Nat.le_trans hb h1, h2⟩
theorem md_start (w w2 W3 : World) (C : Obj) (n cap0 : Nat) (l : List UInt8) (o : Obj) (hi : RowW w.heap.size (w.alloc C) (.slice (some ⟨w.heap.size, 0, none⟩) 4 4) (Dig.row Dig.init))
    (hk : RowW (w.alloc C).heap.size w2 (.slice (some ⟨(w.alloc C).heap.size, 0, none⟩) 64 64) Dig.sines) (hb2 : Below (w.alloc C).heap.size (w.alloc C) w2) (hb3 : Below w2.heap.size w2 W3)
    (ho3 : OwnsZ w2.heap.size w2.heap.size W3 (.slice (some ⟨w2.heap.size, 0, none⟩) n cap0) l) :
    Md w w.heap.size (w.heap.size + 1) w2.heap.size (.slice (some ⟨w2.heap.size, 0, none⟩) n cap0) (W3.alloc o) Dig.init l := by
  have hA := (Below.refl W3.heap.size W3).alloc (Nat.le_refl _) o
  have e : (w.alloc C).heap.size = w.heap.size + 1 := by simp
  have hb := bel2 ((Below.refl w.heap.size w).alloc (Nat.le_refl _) C) hb2
  have hs := hb.size
  have hs2 := hb2.size
  rw [e] at hk hs2
  refine ⟨bel2 (bel2 hb hb3) hA, (hi.below hb2).below (bel2 hb3 hA), RowW.down (hk.below (bel2 hb3 hA)) (Nat.le_succ _), ⟨hs, (ho3.below hA).at_⟩, fun e2 => ?_, fun e2 => ?_, by omega⟩
  · omega
  · have h9 : w.heap.size + 1 < w2.heap.size := (hk.lt (w.heap.size + 1) rfl).2
    omega
theorem u64_255 (X : Nat) (h : X < 18446744073709551616) : bits BinOp.and IntKind.u64 (X : Int) 255 = ((X % 256 : Nat) : Int) := by
  have := u64_and_nat X 255 h (by omega)
  rw [show (255 : Nat) = 2 ^ 8 - 1 from rfl, Nat.and_two_pow_sub_one_eq_mod] at this
  exact this
theorem shift_bits (n j : Nat) (hn : n ≤ 140737488355328) : bits BinOp.and IntKind.u64 (((n : Int) * 8) / 2 ^ (8 * j)) 255 % 256 = ((UInt8.ofNat (8 * n / 256 ^ j)).toNat : Int) := by
  have e : (256 : Nat) ^ j = 2 ^ (8 * j) := by rw [show (256 : Nat) = 2 ^ 8 from rfl, ← Nat.pow_mul]
  have e2 : ((n : Int) * 8) / 2 ^ (8 * j) = ((8 * n / 256 ^ j : Nat) : Int) := by
    rw [e, show (n : Int) * 8 = ((8 * n : Nat) : Int) by omega, Int.natCast_ediv, Int.natCast_pow]
    rfl
  have hle : 8 * n / 256 ^ j ≤ 8 * n := Nat.div_le_self _ _
  rw [e2, u64_255 _ (by omega)]
  simp
theorem u32_255 (X : Nat) (h : X < 4294967296) : bits BinOp.and IntKind.u32 (X : Int) 255 = ((X % 256 : Nat) : Int) := by
  have := u32_and_nat X 255 h (by omega)
  rw [show (255 : Nat) = 2 ^ 8 - 1 from rfl, Nat.and_two_pow_sub_one_eq_mod] at this
  exact this
theorem shift_32 (x : Wrd) (j : Nat) : bits BinOp.and IntKind.u32 ((x.toNat : Int) / 2 ^ (8 * j)) 255 % 256 = ((UInt8.ofNat (x.toNat / 256 ^ j)).toNat : Int) := by
  have e : (256 : Nat) ^ j = 2 ^ (8 * j) := by rw [show (256 : Nat) = 2 ^ 8 from rfl, ← Nat.pow_mul]
  have e2 : (x.toNat : Int) / 2 ^ (8 * j) = ((x.toNat / 256 ^ j : Nat) : Int) := by
    rw [e, Int.natCast_ediv, Int.natCast_pow]
    rfl
  have hle : x.toNat / 256 ^ j ≤ x.toNat := Nat.div_le_self _ _
  have := x.isLt
  rw [e2, u32_255 _ (by omega)]
  simp
set_option maxRecDepth 100000 in
set_option maxHeartbeats 6400000 in
theorem md5_any (l : List UInt8) (w : World) (hl : l.length ≤ 140737488355000) : Calls Tryd.prog 34 #[.string ⟨l.toArray⟩] w fun e w' => e = .returned (.string ⟨(Dig.md5 l).toArray⟩) ∧ Below w.heap.size w w' := by
  have HI := Lib.hid (row_init w)
  have HIB := Lib.hid ((Below.refl w.heap.size w).alloc (Nat.le_refl _) (.cells #[.int .u32 1732584193, .int .u32 4023233417, .int .u32 2562383102, .int .u32 271733878] 76))
  have hzl : (ByteArray.mk l.toArray).size = l.length := sz l
  generalize hn : l.length = n at *
  have HN := Lib.hid hn
  clear hn
  go_enter Tryd.func34, Tryd.ntmps34
  go_wp2_with fail
  refine (sines_any _).mono ?_
  rintro e w2 ⟨rfl, hk, hb2⟩
  have HB2 := Lib.hid hb2
  have HK := Lib.hid hk
  obtain ⟨cap0, W3, hconv, hb3, ho3⟩ := ownsZ_text w2 l (by rw [HN.out]; unfold maxLen; omega)
  rw [HN.out] at hconv ho3
  have hm := md_start w w2 W3 _ n cap0 l (.cells (Lib.byteCells [128]).toArray 5) HI.out hk hb2 hb3 ho3
  have HM := Lib.hid hm
  have HNB := Lib.hid (newB W3 [128])
  have hz4 : w.heap.size ≤ (W3.alloc (.cells (Lib.byteCells [128]).toArray 5)).heap.size := hm.bel.size
  have hlen : l.length + [(128 : UInt8)].length ≤ 140737488355328 := by have := HN.out; simp; omega
  clear hk hb2 hb3 ho3 hm HB2 HK HI HIB
  go_wp2_with (at_builtin; refine wp_pushZ rfl _ _ rfl w.heap.size w2.heap.size l [128] HM.out.brow hz4 HNB.out rfl rfl hlen ?_; intro v5 w5 h5; have HP := Lib.hid (HM.out.push h5))
  clear h5 HM HNB hlen hz4 hconv
  obtain ⟨g5, m5⟩ := HP.out
  have M5 := Lib.hid m5
  clear HP m5
  go_loopg [5] (Dig.nz n) (fun z s5 wr => ∃ (k g : Nat) (L : List UInt8) (cap : Nat), k + z = Dig.nz n ∧ L = l ++ [128] ++ Dig.zeros k ∧ s5 = .slice (some ⟨g, 0, none⟩) (n + 1 + k) cap ∧ Md w w.heap.size (w.heap.size + 1) g s5 wr Dig.init L)
  case atStart =>
    obtain ⟨cap5, e5, _⟩ := M5.out.brow.form
    have hL : (l ++ [(128 : UInt8)]).length = n + 1 := by rw [List.length_append, HN.out]; rfl
    rw [hL] at e5
    exact ⟨0, g5, _, cap5, by omega, by simp [Dig.zeros], e5, M5.out⟩
  case round =>
    clear M5
    obtain ⟨k, g, L, cap, hk, hL, rfl, hm⟩ := hrel
    have HM := Lib.hid hm
    have HL := Lib.hid hL
    have hs := Dig.nz_stop n k (by omega)
    have hnz : Dig.nz n < 64 := by unfold Dig.nz; omega
    clear hm hL
    by_cases hz : k = Dig.nz n
    · have hm56 := hs.2 hz
      obtain ⟨m, hm⟩ : ∃ m, m = n + 1 + k := ⟨_, rfl⟩
      have HMM := Lib.hid hm
      rw [← hm] at HM hm56 ⊢
      have q1 : ((m : Int) % 64 != 56) = false := by rw [bne_eq_false_iff_eq]; omega
      have hLl : L.length = m := by rw [HL.out]; simp only [List.length_append, List.length_singleton, Dig.zeros_length, HN.out]; omega
      have hm2 : m ≤ n + 64 := by omega
      have HL2 : Hid (L = l ++ [128] ++ Dig.zeros (Dig.nz n)) := Lib.hid (by rw [HL.out, hz])
      clear hs hk hm hm56 HL HMM
      go_wp2_with fail
      go_loopw [5, 7] (fun s5 s7 wr => ∃ (k g : Nat) (cap : Nat), k ≤ 8 ∧ s7 = .int .i64 (k : Int) ∧ s5 = .slice (some ⟨g, 0, none⟩) (m + k) cap ∧ Md w w.heap.size (w.heap.size + 1) g s5 wr Dig.init (L ++ Dig.some8 n k)) (fun _ s7 _ => 8 - (intOf s7).toNat)
      case atStart => exact ⟨0, g, cap, by omega, rfl, rfl, by rw [show Dig.some8 n 0 = [] from rfl, List.append_nil]; exact HM.out⟩
      case round =>
        clear HM q1 hz
        obtain ⟨j, g2, cap2, hj, rfl, rfl, hm⟩ := hrel
        have HM := Lib.hid hm
        clear hm
        by_cases hlt : j < 8
        · have hy := shift_bits n j (by omega)
          obtain ⟨y, hyy⟩ : ∃ y, y = UInt8.ofNat (8 * n / 256 ^ j) := ⟨_, rfl⟩
          rw [← hyy] at hy
          have HY := Lib.hid hyy
          have hLl2 : (L ++ Dig.some8 n j).length = m + j := by rw [List.length_append, Dig.some8_length, hLl]
          have hA := (Below.refl wr.heap.size wr).alloc (Nat.le_refl _) (.cells (Lib.byteCells [y]).toArray 5)
          have HMA := Lib.hid (HM.out.below hA)
          have HNB := Lib.hid (newB wr [y])
          have hz4 : w.heap.size ≤ (wr.alloc (.cells (Lib.byteCells [y]).toArray 5)).heap.size := HMA.out.bel.size
          have hlen : (L ++ Dig.some8 n j).length + [y].length ≤ 140737488355328 := by rw [hLl2]; simp; omega
          clear hyy hA HM
          go_wp2_with (at_builtin; refine wp_pushZ rfl _ _ rfl w.heap.size g2 (L ++ Dig.some8 n j) [y] HMA.out.brow hz4 HNB.out rfl rfl hlen ?_; intro v7 w7 h7; have HP := Lib.hid (HMA.out.push h7))
          obtain ⟨g7, m7⟩ := HP.out
          have M7 := Lib.hid m7
          obtain ⟨cap7, e7, _⟩ := m7.brow.form
          have hL7 : (L ++ Dig.some8 n j ++ [y]).length = m + (j + 1) := by rw [List.length_append, hLl2]; simp; omega
          rw [hL7] at e7
          have hLz : L ++ Dig.some8 n j ++ [y] = L ++ Dig.some8 n (j + 1) := by rw [List.append_assoc, HY.out, Dig.some8_succ]
          rw [hLz] at M7
          clear h7 HMA HNB HP m7 hLz hL7
          go_roundw
          case rel => exact ⟨j + 1, g7, cap7, by omega, by go_num, e7, M7.out⟩
          case measure => simp [intOf]; omega
        · obtain rfl : j = 8 := by omega
          have hP : L ++ Dig.some8 n 8 = Dig.pad l := by
            rw [HL2.out]
            unfold Dig.pad Dig.len8 Dig.some8
            rw [HN.out]
            rfl
          have HMP : Hid (Md w w.heap.size (w.heap.size + 1) g2 (.slice (some ⟨g2, 0, none⟩) (m + 8) cap2) wr Dig.init (Dig.pad l)) := Lib.hid (by rw [← hP]; exact HM.out)
          have hpl : (Dig.pad l).length = m + 8 := by rw [← hP, List.length_append, Dig.some8_length, hLl]
          have h64 := Dig.pad_64 l
          rw [hpl] at h64
          clear hP HM
          obtain ⟨q, hq⟩ : ∃ q, m + 8 = 64 * q := ⟨(m + 8) / 64, by omega⟩
          obtain ⟨p, hp⟩ : ∃ p, p = m + 8 := ⟨_, rfl⟩
          have HMD : Hid (Dig.md5 l = Dig.out (Dig.blocks Dig.init (Dig.pad l) q)) := Lib.hid (by
            unfold Dig.md5
            rw [hpl, hq, Nat.mul_div_cancel_left q (by decide)])
          rw [← hp] at HMP hpl hq ⊢
          have hp9 : p ≤ 140737488355200 := by omega
          have hpc : p ≤ cap2 := by
            obtain ⟨c9, e9, h9⟩ := HMP.out.brow.form
            simp only [Value.slice.injEq, true_and] at e9
            omega
          have hcm : cap2 ≤ 9223372036854775807 := by
            obtain ⟨c9, cur, fz, e9, _, _, _, h9, _⟩ := HMP.out.brow.at_
            simp only [Value.slice.injEq, true_and] at e9
            unfold maxLen at h9
            omega
          have HQ := Lib.hid hq
          clear hp h64 hq
          generalize Dig.pad l = P at *
          go_wp2_with fail
          simp only [show ((8 : Nat) : Int) = 8 from rfl]
          go_loopw [8] (fun s8 wr => ∃ t : Nat, t ≤ q ∧ s8 = .int .i64 ((64 * t : Nat) : Int) ∧ Md w w.heap.size (w.heap.size + 1) g2 (.slice (some ⟨g2, 0, none⟩) p cap2) wr (Dig.blocks Dig.init P t) P) (fun s8 _ => p - (intOf s8).toNat)
          case atStart => exact ⟨0, by omega, rfl, HMP.out⟩
          case round =>
            clear HMP
            obtain ⟨t, ht, rfl, hm⟩ := hrel
            have HM := Lib.hid hm
            clear hm
            obtain ⟨i, hi⟩ : ∃ i, i = 64 * t := ⟨_, rfl⟩
            rw [← hi]
            by_cases hlt3 : t < q
            · have hb : Dig.blocks Dig.init P (t + 1) = Dig.block (Dig.blocks Dig.init P t) ((P.drop i).take 64) := by rw [hi]; rfl
              generalize Dig.blocks Dig.init P t = hh at *
              have hi64 : i + 64 ≤ p := by have := HQ.out; omega
              have hr := HM.out.reads i (by omega)
              have hbl : ((P.drop i).take 64).length = 64 := by rw [List.length_take, List.length_drop]; omega
              have HBK := Lib.hid (block_any w.heap.size g2 i (w.heap.size + 1) 4 (cap2 - i) 64 w.heap.size w.heap.size hh _ wr hbl (Lib.hid HM.out.hrow) (Lib.hid hr) (Lib.hid HM.out.krow))
              have HBB := Lib.hid hb
              have HI := Lib.hid hi
              clear hb hr hbl hi
              go_wp2_with fail
              refine HBK.out.mono ?_
              rintro e w6 ⟨rfl, hrow, hg⟩
              have M6 := Lib.hid (HM.out.blocked hrow hg)
              clear hrow hg HBK HM
              go_wp2_with fail
              go_roundw
              case rel => exact ⟨t + 1, by omega, by have := HI.out; exact congrArg (Value.int .i64) (by omega), by rw [HBB.out]; exact M6.out⟩
              case measure => simp [intOf]; omega
            · obtain rfl : t = q := by omega
              have hmd := HMD.out
              generalize Dig.blocks Dig.init P t = hh at *
              have HM5 := Lib.hid HM.out
              have HOUT := Lib.hid hmd
              clear hmd HMD HM hlt3
              have hip : i = p := by have := HQ.out; omega
              clear hi
              subst hip
              obtain ⟨wb, hwb⟩ : ∃ wb, wb = wr := ⟨_, rfl⟩
              have HC : Hid (∀ (r : Nat) wx, r < 4 → Below wb.heap.size wb wx → wx.cell? ⟨w.heap.size, r, none⟩ = some (.int .u32 (((Dig.row hh).getD r 0).toNat : Int))) := Lib.hid fun r wx hr hb => (HM5.out.hrow.below (hwb ▸ hb)).cell r hr
              have HF : Hid (∀ wx, Below wb.heap.size wb wx → Below w.heap.size w wx) := Lib.hid fun wx hb => bel2 HM5.out.bel (hwb ▸ hb)
              have HNIL : Hid (Owns wb wr (.slice none 0 0) (Dig.outs hh 0)) := Lib.hid (by rw [hwb]; exact Owns.nil wr)
              clear HQ hp9 hpc hcm hpl HL2 hLl hm2 HM5 hwb
              go_wp2_with fail
              go_loopw [9, 10, 11] (fun s9 s10 _ wx => ∃ r : Nat, r ≤ 4 ∧ s10 = .int .i64 (r : Int) ∧ Owns wb wx s9 (Dig.outs hh r)) (fun _ s10 _ _ => 4 - (intOf s10).toNat)
              case atStart => exact ⟨0, by omega, rfl, HNIL.out⟩
              case round =>
                clear HNIL
                obtain ⟨r, hr, rfl, ho⟩ := hrel
                have HO := Lib.hid ho
                clear ho
                by_cases hr4 : r < 4
                · have q4 : decide ((r : Int) < 4) = true := decide_eq_true (by omega)
                  have HS := Lib.hid (Dig.outs_succ hh r hr4)
                  have hol := Dig.outs_length hh r hr
                  have HC1 := Lib.hid fun wx hb => HC.out r wx hr4 hb
                  have ih := indexW w.heap.size 4 4 r hr4
                  generalize (Dig.row hh).getD r 0 = x at *
                  go_wp2_with fail
                  go_loopw [9, 11] (fun s9 s11 wx => ∃ j : Nat, j ≤ 4 ∧ s11 = .int .i64 (j : Int) ∧ Owns wb wx s9 (Dig.outs hh r ++ Dig.some4 x j)) (fun _ s11 _ => 4 - (intOf s11).toNat)
                  case atStart => exact ⟨0, by omega, rfl, by rw [show Dig.some4 x 0 = [] from rfl, List.append_nil]; exact HO.out⟩
                  case round =>
                    clear HO
                    obtain ⟨j, hj, rfl, ho⟩ := hrel
                    have HO := Lib.hid ho
                    clear ho
                    by_cases hj4 : j < 4
                    · have c0 := HC1.out _ HO.out.2
                      have hy := shift_32 x j
                      obtain ⟨y, hyy⟩ : ∃ y, y = UInt8.ofNat (x.toNat / 256 ^ j) := ⟨_, rfl⟩
                      rw [← hyy] at hy
                      have HY : Hid (Dig.outs hh r ++ Dig.some4 x j ++ [y] = Dig.outs hh r ++ Dig.some4 x (j + 1)) := Lib.hid (by rw [List.append_assoc, hyy, Dig.some4_succ])
                      have hlen : (Dig.outs hh r ++ Dig.some4 x j).length + [y].length ≤ 1073741824 := by rw [List.length_append, Dig.some4_length]; simp; omega
                      clear hyy
                      go_wp2_with (at_builtin; refine wp_push rfl _ _ rfl (Dig.outs hh r ++ Dig.some4 x j) [y] HO.out rfl rfl hlen ?_; intro v7 w7 h7; have H7 := Lib.hid h7)
                      clear h7
                      rw [HY.out] at H7
                      go_roundw
                      case rel => exact ⟨j + 1, by omega, by go_num, H7.out⟩
                      case measure => simp [intOf]; omega
                    · obtain rfl : j = 4 := by omega
                      have H8 := HO.out
                      rw [HS.out] at H8
                      have H8 := Lib.hid H8
                      clear HO
                      go_wp2_with fail
                      go_roundw
                      case rel => exact ⟨r + 1, by omega, by go_num, H8.out⟩
                      case measure => simp [intOf]; omega
                · obtain rfl : r = 4 := by omega
                  have ho := HO.out
                  rw [Dig.outs_all, ← HOUT.out] at ho
                  have hcv := ho.text
                  have HB9 := Lib.hid (HF.out _ ho.2)
                  clear ho
                  go_wp2_with fail
                  go_ret
                  exact ⟨rfl, HB9.out⟩
    · have hm56 : (n + 1 + k) % 64 ≠ 56 := fun e => hz (hs.1 e)
      obtain ⟨m, hm⟩ : ∃ m, m = n + 1 + k := ⟨_, rfl⟩
      have HMM := Lib.hid hm
      rw [← hm] at HM hm56 ⊢
      have q1 : ((m : Int) % 64 != 56) = true := by rw [bne_iff_ne]; omega
      have hLl : L.length = m := by rw [HL.out]; simp only [List.length_append, List.length_singleton, Dig.zeros_length, HN.out]; omega
      have hA := (Below.refl wr.heap.size wr).alloc (Nat.le_refl _) (.cells (Lib.byteCells [0]).toArray 5)
      have HMA := Lib.hid (HM.out.below hA)
      have HNB := Lib.hid (newB wr [0])
      have hz4 : w.heap.size ≤ (wr.alloc (.cells (Lib.byteCells [0]).toArray 5)).heap.size := HMA.out.bel.size
      have hlen : L.length + [(0 : UInt8)].length ≤ 140737488355328 := by rw [hLl]; simp; omega
      have HK : Hid (k + 1 ≤ Dig.nz n ∧ k + gk = Dig.nz n) := Lib.hid ⟨by omega, hk⟩
      clear hs hk hm hm56 hA HM
      go_wp2_with (at_builtin; refine wp_pushZ rfl _ _ rfl w.heap.size g L [0] HMA.out.brow hz4 HNB.out rfl rfl hlen ?_; intro v7 w7 h7; have HP := Lib.hid (HMA.out.push h7))
      obtain ⟨g7, m7⟩ := HP.out
      have M7 := Lib.hid m7
      obtain ⟨cap7, e7, _⟩ := m7.brow.form
      have hL7 : (L ++ [(0 : UInt8)]).length = n + 1 + (k + 1) := by rw [List.length_append, hLl]; have := HMM.out; simp; omega
      rw [hL7] at e7
      have hLz : L ++ [(0 : UInt8)] = l ++ [128] ++ Dig.zeros (k + 1) := by rw [HL.out, List.append_assoc _ _ [0], Dig.zeros_succ]
      clear h7 HMA HNB HP m7
      go_roundg (gk - 1)
      case measure => have := HK.out; omega
      case rel => exact ⟨k + 1, g7, _, cap7, by have := HK.out; omega, hLz, e7, M7.out⟩
end Go.Proofs.YtaagfmnpeimakaaDoor.Dg
