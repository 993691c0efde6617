/-
  Contracts of the program's digest: the state after so many blocks; the state as bytes.
-/
import Derived.Test.YtaagfmnpeimakaaDoorDh3
import Derived.Deep.RegionWith
namespace Go.Proofs.YtaagfmnpeimakaaDoor.Dig
theorem word_take (b : List UInt8) (i : Nat) (hi : i < 16) : word (b.take 64) i = word b i := by
  have e : ∀ j, j < 64 → (b.take 64).getD j 0 = b.getD j 0 := fun j hj => by
    rw [List.getD_eq_getElem?_getD, List.getD_eq_getElem?_getD, List.getElem?_take, if_pos hj]
  unfold word
  rw [e _ (by omega), e _ (by omega), e _ (by omega), e _ (by omega)]
theorem block_take (h : St) (b : List UInt8) : block h (b.take 64) = block h b := by
  have e : words (b.take 64) = words b := by
    unfold words
    exact List.map_congr_left fun i hi => word_take b i (List.mem_range.1 hi)
  unfold block
  rw [e]
/-- What fills up the last block. -/
def ending (n : Nat) : List UInt8 := [128] ++ zeros ((119 - n % 64) % 64) ++ len8 n
theorem blocks_succ (h : St) (b : List UInt8) (n : Nat) : blocks h b (n + 1) = block (blocks h b n) (b.drop (64 * n)) := block_take _ _
end Go.Proofs.YtaagfmnpeimakaaDoor.Dig
namespace Go.Proofs.YtaagfmnpeimakaaDoor.Dh
open Go.RowKit
set_option maxRecDepth 100000
theorem stC_set {B : Nat} {w : World} {h : Dig.St} (H : Arr B w (stC h)) (o : Dig.St) :
    Arr B ((((w.setCell ⟨B, 0, none⟩ (.int .u32 (o.a.toNat : Int))).setCell ⟨B, 1, none⟩ (.int .u32 (o.x.toNat : Int))).setCell ⟨B, 2, none⟩ (.int .u32 (o.c.toNat : Int))).setCell ⟨B, 3, none⟩ (.int .u32 (o.d.toNat : Int))) (stC o) :=
  (((H.set 0 _).set 1 _).set 2 _).set 3 _
theorem four_grown (B : Nat) (w : World) (u0 u1 u2 u3 : Value) : w.grownBy ((((w.setCell ⟨B, 0, none⟩ u0).setCell ⟨B, 1, none⟩ u1).setCell ⟨B, 2, none⟩ u2).setCell ⟨B, 3, none⟩ u3) (some B) :=
  grown_set (grown_set (grown_set (grown_cell w ⟨B, 0, none⟩ u0) 1 u1) 2 u2) 3 u3
set_option maxHeartbeats 3200000 in
set_option maxRecDepth 100000 in
theorem all_any (h0 : Dig.St) (b : List UInt8) (q : Nat) (hq : b.length = 64 * q) (hl : b.length ≤ 281474976710656) (w : World) (T : Hid (Tab w)) :
    Calls Tryd.prog 54 #[.agg (stC h0).toArray, .string ⟨b.toArray⟩] w fun e w' => e = .returned (.agg (stC (Dig.blocks h0 b q)).toArray) ∧ Below w.heap.size w w' := by
  obtain ⟨w1, hw1⟩ : ∃ w1, w1 = (w.alloc (.cells (stC h0).toArray 93)).alloc (.cells #[.int .u32 0, .int .u32 0, .int .u32 0, .int .u32 0] 93) := ⟨_, rfl⟩
  have hb1 : Below w.heap.size w w1 := hw1 ▸ ((Below.refl w.heap.size w).alloc (Nat.le_refl _) _).alloc (by simp) _
  have A0 : Hid (Arr w.heap.size w1 (stC h0)) := Lib.hid (hw1 ▸ (Arr.new w (stC h0) 93).below ((Below.refl _ _).alloc (Nat.le_refl _) _))
  have A2 : Hid (Arr (w.heap.size + 1) w1 [.int .u32 0, .int .u32 0, .int .u32 0, .int .u32 0]) := Lib.hid (hw1 ▸ Arr.at (Arr.new (w.alloc (.cells (stC h0).toArray 93)) [.int .u32 0, .int .u32 0, .int .u32 0, .int .u32 0] 93) (by simp))
  have HB1 := Lib.hid hb1
  clear hb1
  go_enter Tryd.func54, Tryd.ntmps54
  go_wp2_with fail
  rw [← hw1]
  clear hw1
  go_loopg [1] q (fun g s1 wr => ∃ t : Nat, t + g = q ∧ s1 = .string ⟨(b.drop (64 * t)).toArray⟩ ∧ Arr w.heap.size wr (stC (Dig.blocks h0 b t)) ∧ Arr (w.heap.size + 1) wr [.int .u32 0, .int .u32 0, .int .u32 0, .int .u32 0] ∧ Below w.heap.size w wr)
  case atStart => exact ⟨0, by omega, by simp, A0.out, A2.out, HB1.out⟩
  case round =>
    clear A0 A2 HB1
    obtain ⟨t, hgt, rfl, h0', h2, hb⟩ := hrel
    have ht : t ≤ q := by omega
    have H0 := Lib.hid h0'
    have H2 := Lib.hid h2
    have HB := Lib.hid hb
    clear h0' h2 hb
    obtain ⟨c, hc⟩ : ∃ c, c = b.drop (64 * t) := ⟨_, rfl⟩
    have hcl : c.length = 64 * (q - t) := by rw [hc, List.length_drop]; omega
    have hsz : (ByteArray.mk c.toArray).size = c.length := sz c
    rw [← hc]
    by_cases hlt : t < q
    · have hsucc := Dig.blocks_succ h0 b t
      rw [← hc] at hsucc
      have hdrop : b.drop (64 * (t + 1)) = c.drop 64 := by rw [hc, List.drop_drop]; congr 1
      have WD := Lib.hid fun W => words_any c W (by omega) (by rw [hcl]; omega)
      have hcut := tail_list c 64
      generalize hH : Dig.blocks h0 b t = h at *
      obtain ⟨p, u, r, s⟩ := h
      have ON := Lib.hid fun W (T : Hid (Tab W)) => one_walk p u r s (Dig.words c) (by simp [Dig.words]) W T _ rfl
      have hbk : Dig.join ⟨p, u, r, s⟩ (Dig.run (Dig.words c) ⟨p, u, r, s⟩ 64) = Dig.block ⟨p, u, r, s⟩ c := rfl
      rw [hbk] at ON
      rw [← hsucc] at ON
      obtain ⟨n, hn⟩ : ∃ n, n = 64 * (q - t) := ⟨_, rfl⟩
      have hn64 : (64 : Int) ≤ (n : Int) := by omega
      rw [← hn] at hcl
      rw [hcl] at hsz
      rw [hsz] at hcut
      have HX : Hid ((ByteArray.mk c.toArray).extract 64 n = ⟨(b.drop (64 * (t + 1))).toArray⟩) := Lib.hid (by rw [hdrop]; exact hcut)
      have c0 := H0.out.cell 0 _ rfl
      have c1 := H0.out.cell 1 _ rfl
      have c2 := H0.out.cell 2 _ rfl
      have c3 := H0.out.cell 3 _ rfl
      clear hsucc hdrop hbk hc hn hcl hH hcut
      generalize Dig.words c = M at *
      generalize hB2 : Dig.blocks h0 b (t + 1) = h2' at *
      have HBK := Lib.hid hB2
      clear hB2
      obtain ⟨p', u', r', s'⟩ := h2'
      have ON2 := ON.out
      simp only [stC] at ON2
      have ON := Lib.hid ON2
      clear ON2
      go_wp2_with fail
      go_region_with (first | (go_at_call 61; refine (WD.out _).mono ?_; rintro e w4 ⟨rfl, hb4⟩; have Y4 := Lib.hid (Arr.below (w := wr.drew) H0.out hb4); have m0 := Y4.out.cell 0 _ rfl; have m1 := Y4.out.cell 1 _ rfl; have m2 := Y4.out.cell 2 _ rfl; have m3 := Y4.out.cell 3 _ rfl; have HB4 := Lib.hid (bel2 HB.out.drew hb4); have Z4 := Lib.hid (Arr.below (w := wr.drew) H2.out hb4); clear hb4) | (go_at_call 60; refine (ON.out _ (Lib.hid (T.out.below HB4.out))).mono ?_; rintro e w5 ⟨rfl, hb5⟩; have Y5 := Lib.hid (Arr.below Y4.out hb5); have g0 := Y5.out.cell 0 _ rfl; have g1 := Y5.out.cell 1 _ rfl; have g2 := Y5.out.cell 2 _ rfl; have g3 := Y5.out.cell 3 _ rfl; have fz5 : ∀ o, w5.frozen? ⟨w.heap.size, o, none⟩ = false := (fun o => Y5.out.frozen o); have HB5 := Lib.hid (bel2 HB4.out hb5); have Z5 := Lib.hid (Arr.below Z4.out hb5); clear hb5))
      all_goals
        go_wp2_with fail
        go_roundg (gk - 1)
        case measure => omega
        case rel =>
          have hg := four_grown w.heap.size w5 (.int .u32 (p'.toNat : Int)) (.int .u32 (u'.toNat : Int)) (.int .u32 (r'.toNat : Int)) (.int .u32 (s'.toNat : Int))
          exact ⟨t + 1, by omega, by rw [HX.out], by rw [HBK.out]; exact stC_set Y5.out ⟨p', u', r', s'⟩, Arr.grown Z5.out hg (by simp), below_of_grown HB5.out hg (Nat.le_refl _) rfl⟩
    · obtain rfl : t = q := by omega
      have hs0 : c.length = 0 := by omega
      rw [hs0] at hsz
      clear hc
      have HLD := Lib.hid (H0.out.load 93 4 76 Tryd.underlying93 info4)
      obtain ⟨wz, hst, hz, hgz⟩ := H2.out.store (ds := stC (Dig.blocks h0 b t)) 93 info4 rfl (by intro v hv; simp [stC] at hv; rcases hv with rfl | rfl | rfl | rfl <;> rfl)
      have HB9 := Lib.hid (below_of_grown HB.out hgz (by omega) rfl)
      have HST := Lib.hid hst
      have HLE := Lib.hid (hz.load 93 4 76 Tryd.underlying93 info4)
      clear hst hgz hz
      go_wp2_with (first | (refine wpList_load rfl 93 _ rfl ⟨w.heap.size, 0, none⟩ _ rfl HLD.out ?_) | (refine wpList_store rfl 93 _ _ rfl ⟨w.heap.size + 1, 0, none⟩ _ wz rfl rfl HST.out ?_))
      refine bodyPost_ret (v := .agg (stC (Dig.blocks h0 b t)).toArray) ?_ rfl ⟨rfl, HB9.out⟩
      have hle := HLE.out
      simp [results, Tryd.f54, asAddr, Act.put, hle]
end Go.Proofs.YtaagfmnpeimakaaDoor.Dh
