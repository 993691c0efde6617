/-
  The document's own timers: a time set anew. (The loop is YR6's; a script writes it: gen_yr7.py.)
-/
import Derived.Test.YthbbeiflkiihdaaYR6
namespace Go.Proofs.Ythbbeiflkiihdaa.Y
open Go.RowKit
set_option maxRecDepth 100000 in
set_option maxHeartbeats 6400000 in
theorem rset_there (B : Nat) (v : Value) (S0 : List Tim.T) (id t : Int) (w : World) (h : Rm B v w S0) (h1 : ¬id < 0) (h2 : ¬t < 0) (hh : Tim.has S0 id = true) :
    Calls Try.prog 7 #[.pointer (some ⟨B, 0, none⟩), .int .i64 id, .int .i64 t] w (RefPost B v w (Tim.ins (id, t) (Tim.del S0 id), 0)) := by
  have H0 := Lib.hid h
  obtain ⟨j, hj, hjl, _⟩ := Tim.spot_some id S0 0 hh
  have HP := place_any B v S0 id w h.rf h.ok.few
  rw [hj, Nat.zero_add] at HP
  have HP := Lib.hid HP
  have HST : Hid (∀ w1, Rm B v w1 S0 → Calls Try.prog 9 #[.pointer (some ⟨B, 0, none⟩), .int .i64 id] w1 (RefPost B v w1 (Tim.del S0 id, 0))) := Lib.hid fun w1 k => rstop_there B v S0 id w1 k hh
  have hl : (Tim.del S0 id).length < 256 := by
    obtain ⟨y, hy, e⟩ := (Tim.has_iff S0 id).1 hh
    have h5 := Tim.del_less y h.ok.ids hy
    rw [e] at h5
    have := h.ok.few
    omega
  have HOK : Hid (Tim.Ok (Tim.ins (id, t) (Tim.del S0 id))) := Lib.hid (Tim.ins_ok (Tim.del_ok h.ok id) _ (fun x hx => ((Tim.del_mem S0 id x).1 hx).2) hl)
  have hjm : j ≤ 256 := by have := h.ok.few; omega
  clear h hh hj hjl
  generalize Tim.del S0 id = S at *
  go_enter Try.func7, Try.ntmps7
  go_wp2_with fail
  refine HP.out.mono ?_
  unfold spotI
  rintro e w0 ⟨rfl, hb⟩
  have HR0 := Lib.hid (H0.out.below hb)
  have HB0 := Lib.hid hb
  have q0 : decide ((0 : Int) ≤ (j : Int)) = true := decide_eq_true (by omega)
  clear hb HP
  go_wp2_with fail
  refine (HST.out _ HR0.out).mono ?_
  rintro e w1 ⟨rfl, v1, hR, hm⟩
  have HR := Lib.hid hR
  have HMV := Lib.hid ((Mv.of_below HB0.out B v).trans hm)
  obtain ⟨p, cap, rfl⟩ := hR.rf.form
  have HB : Hid (Below w1.heap.size w1 w1) := Lib.hid (Below.refl _ _)
  have H := HR
  have c0 := HR.out.rf.box.cell 0 _ rfl
  clear hR hm HST H0 HR0
  go_wp2_with fail
  go_loopw [7, 8, 9, 10] (fun o d i _ wr => ∃ (k : Nat) (b : Bool) (pre : List Tim.T) (q : Option Addr) (c : Nat), k ≤ S.length ∧ pre.length ≤ k + b.toNat ∧ i = .int .i64 k ∧ d = .bool b ∧ o = .slice q pre.length c ∧ Out B w1 wr (.slice q pre.length c) pre ∧ Hid (Far (id, t) S b k pre)) (fun _ _ i _ _ => S.length - (intOf i).toNat)
  case atStart => exact ⟨0, false, [], none, 0, by omega, by decide, rfl, rfl, rfl, ⟨RowX.empty _ _, Below.refl _ _, fun k hk => by cases hk⟩, Lib.hid ⟨fun _ => rfl, fun e => by cases e⟩⟩
  case round =>
    obtain ⟨k, b, pre, q, c, hk, hpl, rfl, rfl, rfl, ho, HF⟩ := hrel
    have HO := Lib.hid ho
    have HM := Lib.hid (HR.out.below ho.bel)
    have c0 := HM.out.rf.box.cell 0 _ rfl
    clear ho
    by_cases hlt : k < S.length
    · obtain ⟨G, cap2, e, _, _, hG⟩ := HM.out.rf.arr.full (by omega)
      simp only [Value.slice.injEq, true_and] at e
      obtain ⟨rfl, rfl⟩ := e
      obtain ⟨c1, c2⟩ := HM.out.rf.arr.cells k hlt
      have hi := indexX G S.length cap k hlt
      have HDR := Lib.hid (drop_gx S k hlt)
      obtain ⟨o8, ho8⟩ : ∃ o8, o8 = 2 * k := ⟨_, rfl⟩
      rw [← ho8] at hi c1 c2
      clear ho8
      generalize Tim.g S k = x at *
      obtain ⟨a, s⟩ := x
      have hp9 : pre.length ≤ 300 := by have := Bool.toNat_le b; omega
      cases b
      · have hway : t < s ∨ (t = s ∧ id < a) ∨ s < t ∨ (t = s ∧ ¬id < a) := by omega
        rcases hway with hw | ⟨hw0, hw⟩ | hw | ⟨hw0, hw⟩
        · have q3 : decide (t < s) = true := decide_eq_true hw
          have HF2 := Lib.hid (far_put HF.out HDR.out rfl (show Tim.tl (id, t) (a, s) by simp only [Tim.tl]; omega))
          have b1 := (Below.refl wr.heap.size wr).alloc (Nat.le_refl _) (.cells #[.int .i64 a, .int .i64 s] 44)
          have b2 := (Below.refl (wr.alloc (.cells #[.int .i64 a, .int .i64 s] 44)).heap.size _).alloc (Nat.le_refl _) (.cells #[.int .i64 id, .int .i64 t] 44)
          have HX := Lib.hid (Blk.below (Blk.new wr [.int .i64 a, .int .i64 s] 44) b2)
          have HO2 := Lib.hid (HO.out.below (bel2 b1 b2))
          have RL := Lib.hid (readsX_one (wr.alloc (.cells #[.int .i64 a, .int .i64 s] 44)) id t (wr.heap.size + 1) (by simp))
          have hz := (HM.out.below (bel2 b1 b2)).rf.lt
          have hl5 : pre.length + [(id, t)].length ≤ 1000000 := by simp; omega
          have hl7 : (pre ++ [(id, t)]).length + [(a, s)].length ≤ 1000000 := by simp; omega
          have HN : Hid (some wr.heap.size ≠ (Value.slice q pre.length c).ownBlock) := Lib.hid fun e => by have := (HO.out.row.lt _ e.symm).2; omega
          clear HF b1 b2
          go_wp2_with (first | (at_builtin; refine wp_catXs rfl _ _ rfl (B + 1) pre [(id, t)] HO2.out.row hz RL.out rfl rfl hl5 ?_; intro v5 w5 h5; have O5 := Lib.hid (HO2.out.push h5); have hX5 := HX.out.grown h5.grown HN.out; have k0 := hX5.cell 0 _ rfl; have k1 := hX5.cell 1 _ rfl; have hA5 := (Below.refl w5.heap.size w5).alloc (Nat.le_refl _) (.cells #[.int .i64 a, .int .i64 s] 44); have O6 := O5.out.below hA5; have RL6 := Lib.hid (readsX_one w5 a s w5.heap.size rfl); have hz6 := ((HR.out.below O5.out.bel).below hA5).rf.lt; obtain ⟨p5, cap5, rfl⟩ := h5.row.form; simp only [List.length_append, List.length_singleton] at O6; have O6 := Lib.hid O6; clear h5 hX5 hA5) | (at_builtin; refine wp_catXs rfl _ _ rfl (B + 1) (pre ++ [(id, t)]) [(a, s)] O6.out.row hz6 RL6.out rfl rfl hl7 ?_; intro v7 w7 h7; have O7 := Lib.hid (O6.out.push h7); obtain ⟨p7, cap7, rfl⟩ := h7.row.form; clear h7))
          go_roundw
          case rel => exact ⟨k + 1, true, pre ++ [(id, t)] ++ [(a, s)], p7, cap7, by omega, by simp [List.length_append, Bool.toNat] at hpl ⊢; omega, by go_num, rfl, by simp, O7.out, HF2⟩
          case measure => simp [intOf]; omega
        · have q3 : decide (id < a) = true := decide_eq_true hw
          subst hw0
          have HF2 := Lib.hid (far_put HF.out HDR.out rfl (show Tim.tl (id, t) (a, t) from .inr ⟨rfl, hw⟩))
          have b1 := (Below.refl wr.heap.size wr).alloc (Nat.le_refl _) (.cells #[.int .i64 a, .int .i64 t] 44)
          have b2 := (Below.refl (wr.alloc (.cells #[.int .i64 a, .int .i64 t] 44)).heap.size _).alloc (Nat.le_refl _) (.cells #[.int .i64 id, .int .i64 t] 44)
          have HX := Lib.hid (Blk.below (Blk.new wr [.int .i64 a, .int .i64 t] 44) b2)
          have HO2 := Lib.hid (HO.out.below (bel2 b1 b2))
          have RL := Lib.hid (readsX_one (wr.alloc (.cells #[.int .i64 a, .int .i64 t] 44)) id t (wr.heap.size + 1) (by simp))
          have hz := (HM.out.below (bel2 b1 b2)).rf.lt
          have hl5 : pre.length + [(id, t)].length ≤ 1000000 := by simp; omega
          have hl7 : (pre ++ [(id, t)]).length + [(a, t)].length ≤ 1000000 := by simp; omega
          have HN : Hid (some wr.heap.size ≠ (Value.slice q pre.length c).ownBlock) := Lib.hid fun e => by have := (HO.out.row.lt _ e.symm).2; omega
          clear HF b1 b2
          go_wp2_with (first | (at_builtin; refine wp_catXs rfl _ _ rfl (B + 1) pre [(id, t)] HO2.out.row hz RL.out rfl rfl hl5 ?_; intro v5 w5 h5; have O5 := Lib.hid (HO2.out.push h5); have hX5 := HX.out.grown h5.grown HN.out; have k0 := hX5.cell 0 _ rfl; have k1 := hX5.cell 1 _ rfl; have hA5 := (Below.refl w5.heap.size w5).alloc (Nat.le_refl _) (.cells #[.int .i64 a, .int .i64 t] 44); have O6 := O5.out.below hA5; have RL6 := Lib.hid (readsX_one w5 a t w5.heap.size rfl); have hz6 := ((HR.out.below O5.out.bel).below hA5).rf.lt; obtain ⟨p5, cap5, rfl⟩ := h5.row.form; simp only [List.length_append, List.length_singleton] at O6; have O6 := Lib.hid O6; clear h5 hX5 hA5) | (at_builtin; refine wp_catXs rfl _ _ rfl (B + 1) (pre ++ [(id, t)]) [(a, t)] O6.out.row hz6 RL6.out rfl rfl hl7 ?_; intro v7 w7 h7; have O7 := Lib.hid (O6.out.push h7); obtain ⟨p7, cap7, rfl⟩ := h7.row.form; clear h7))
          go_roundw
          case rel => exact ⟨k + 1, true, pre ++ [(id, t)] ++ [(a, t)], p7, cap7, by omega, by simp [List.length_append, Bool.toNat] at hpl ⊢; omega, by go_num, rfl, by simp, O7.out, HF2⟩
          case measure => simp [intOf]; omega
        · have q3 : decide (t < s) = false := decide_eq_false (by omega)
          have q4 : decide (t = s) = false := decide_eq_false (by omega)
          have q5 : (t == s) = false := beq_eq_false_iff_ne.2 (by omega)
          have HF2 := Lib.hid (far_on HF.out HDR.out rfl (show ¬Tim.tl (id, t) (a, s) by simp only [Tim.tl]; omega))
          have b1 := (Below.refl wr.heap.size wr).alloc (Nat.le_refl _) (.cells #[.int .i64 a, .int .i64 s] 44)
          have b2 := (Below.refl (wr.alloc (.cells #[.int .i64 a, .int .i64 s] 44)).heap.size _).alloc (Nat.le_refl _) (.cells #[.int .i64 a, .int .i64 s] 44)
          have HO2 := Lib.hid (HO.out.below (bel2 b1 b2))
          have RL := Lib.hid (readsX_one (wr.alloc (.cells #[.int .i64 a, .int .i64 s] 44)) a s (wr.heap.size + 1) (by simp))
          have hz := (HM.out.below (bel2 b1 b2)).rf.lt
          have hl5 : pre.length + [(a, s)].length ≤ 1000000 := by simp; omega
          clear HF b1 b2
          go_wp2_with (at_builtin; refine wp_catXs rfl _ _ rfl (B + 1) pre [(a, s)] HO2.out.row hz RL.out rfl rfl hl5 ?_; intro v5 w5 h5; have O5 := Lib.hid (HO2.out.push h5); obtain ⟨p5, cap5, rfl⟩ := h5.row.form; clear h5)
          go_roundw
          case rel => exact ⟨k + 1, false, pre ++ [(a, s)], p5, cap5, by omega, by simp [List.length_append, Bool.toNat] at hpl ⊢; omega, by go_num, rfl, by simp, O5.out, HF2⟩
          case measure => simp [intOf]; omega
        · have q3 : decide (id < a) = false := decide_eq_false hw
          subst hw0
          have HF2 := Lib.hid (far_on HF.out HDR.out rfl (show ¬Tim.tl (id, t) (a, t) by simp only [Tim.tl]; omega))
          have b1 := (Below.refl wr.heap.size wr).alloc (Nat.le_refl _) (.cells #[.int .i64 a, .int .i64 t] 44)
          have b2 := (Below.refl (wr.alloc (.cells #[.int .i64 a, .int .i64 t] 44)).heap.size _).alloc (Nat.le_refl _) (.cells #[.int .i64 a, .int .i64 t] 44)
          have HO2 := Lib.hid (HO.out.below (bel2 b1 b2))
          have RL := Lib.hid (readsX_one (wr.alloc (.cells #[.int .i64 a, .int .i64 t] 44)) a t (wr.heap.size + 1) (by simp))
          have hz := (HM.out.below (bel2 b1 b2)).rf.lt
          have hl5 : pre.length + [(a, t)].length ≤ 1000000 := by simp; omega
          clear HF b1 b2
          go_wp2_with (at_builtin; refine wp_catXs rfl _ _ rfl (B + 1) pre [(a, t)] HO2.out.row hz RL.out rfl rfl hl5 ?_; intro v5 w5 h5; have O5 := Lib.hid (HO2.out.push h5); obtain ⟨p5, cap5, rfl⟩ := h5.row.form; clear h5)
          go_roundw
          case rel => exact ⟨k + 1, false, pre ++ [(a, t)], p5, cap5, by omega, by simp [List.length_append, Bool.toNat] at hpl ⊢; omega, by go_num, rfl, by simp, O5.out, HF2⟩
          case measure => simp [intOf]; omega
      · have HF2 := Lib.hid (far_done HF.out HDR.out rfl)
        have b1 := (Below.refl wr.heap.size wr).alloc (Nat.le_refl _) (.cells #[.int .i64 a, .int .i64 s] 44)
        have b2 := (Below.refl (wr.alloc (.cells #[.int .i64 a, .int .i64 s] 44)).heap.size _).alloc (Nat.le_refl _) (.cells #[.int .i64 a, .int .i64 s] 44)
        have HO2 := Lib.hid (HO.out.below (bel2 b1 b2))
        have RL := Lib.hid (readsX_one (wr.alloc (.cells #[.int .i64 a, .int .i64 s] 44)) a s (wr.heap.size + 1) (by simp))
        have hz := (HM.out.below (bel2 b1 b2)).rf.lt
        have hl5 : pre.length + [(a, s)].length ≤ 1000000 := by simp; omega
        clear HF b1 b2
        go_wp2_with (at_builtin; refine wp_catXs rfl _ _ rfl (B + 1) pre [(a, s)] HO2.out.row hz RL.out rfl rfl hl5 ?_; intro v5 w5 h5; have O5 := Lib.hid (HO2.out.push h5); obtain ⟨p5, cap5, rfl⟩ := h5.row.form; clear h5)
        go_roundw
        case rel => exact ⟨k + 1, true, pre ++ [(a, s)], p5, cap5, by omega, by simp [List.length_append, Bool.toNat] at hpl ⊢; omega, by go_num, rfl, by simp, O5.out, HF2⟩
        case measure => simp [intOf]; omega
    · obtain rfl : k = S.length := by omega
      have fz := HM.out.rf.box.2
      cases b
      · have HE : Hid (pre ++ [(id, t)] = Tim.ins (id, t) S) := Lib.hid (by have := HF.out.1 rfl; rwa [List.drop_length] at this)
        have hp9 : pre.length ≤ 300 := by simp [Bool.toNat] at hpl; omega
        have b1 := (Below.refl wr.heap.size wr).alloc (Nat.le_refl _) (.cells #[.int .i64 id, .int .i64 t] 44)
        have HO2 := Lib.hid (HO.out.below b1)
        have RL := Lib.hid (readsX_one wr id t wr.heap.size rfl)
        have hz := (HM.out.below b1).rf.lt
        have hl5 : pre.length + [(id, t)].length ≤ 1000000 := by simp; omega
        clear HF b1 fz
        go_wp2_with (at_builtin; refine wp_catXs rfl _ _ rfl (B + 1) pre [(id, t)] HO2.out.row hz RL.out rfl rfl hl5 ?_; intro v5 w5 h5; have o5 := HO2.out.push h5; have x5 := HR.out.rf.box.below o5.bel; have c5 := x5.cell 0 _ rfl; have fz := x5.2; have O5 := Lib.hid o5; have W5 := Lib.hid o5; obtain ⟨p5, cap5, rfl⟩ := h5.row.form; simp only [List.length_append, List.length_singleton] at O5; clear h5 o5 x5)
        go_ret
        refine ⟨rfl, _, ?_, HMV.out.trans (mv_anew (bel2 HB.out O5.out.bel) _ fun g hg => Nat.le_trans HB.out.size (O5.out.own g hg))⟩
        rw [← HE.out]
        exact Rm.anew H.out.rf (bel2 HB.out O5.out.bel) (HE.out ▸ HOK.out) O5.out.row
      · have HE : Hid (pre = Tim.ins (id, t) S) := Lib.hid (by have := HF.out.2 rfl; rwa [List.drop_length, List.append_nil] at this)
        clear HF
        go_wp2_with fail
        go_ret
        refine ⟨rfl, _, ?_, HMV.out.trans (mv_anew (bel2 HB.out HO.out.bel) _ fun g hg => Nat.le_trans HB.out.size (HO.out.own g hg))⟩
        rw [← HE.out]
        exact Rm.anew H.out.rf (bel2 HB.out HO.out.bel) (HE.out ▸ HOK.out) HO.out.row
/-- A time set, any way. -/
theorem rset_any (B : Nat) (v : Value) (S : List Tim.T) (id t : Int) (w : World) (h : Rm B v w S) :
    Calls Try.prog 7 #[.pointer (some ⟨B, 0, none⟩), .int .i64 id, .int .i64 t] w (RefPost B v w (Tim.set S id t)) := by
  unfold Tim.set
  split
  · rename_i hf
    exact rset_form B v S id t w h hf
  · rename_i hf
    have h1 : ¬id < 0 := by omega
    have h2 : ¬t < 0 := by omega
    split
    · rename_i hh
      exact rset_there B v S id t w h h1 h2 hh
    · rename_i hh
      have hh : Tim.has S id = false := by simpa using hh
      split
      · rename_i hl
        exact rset_full B v S id t w h h1 h2 hh hl
      · rename_i hl
        exact rset_new B v S id t w h h1 h2 hh (by omega)
theorem rstop_any (B : Nat) (v : Value) (S : List Tim.T) (id : Int) (w : World) (h : Rm B v w S) :
    Calls Try.prog 9 #[.pointer (some ⟨B, 0, none⟩), .int .i64 id] w (RefPost B v w (Tim.stop S id)) := by
  unfold Tim.stop
  split
  · rename_i hh
    exact rstop_there B v S id w h hh
  · rename_i hh
    exact rstop_none B v S id w h (by simpa using hh)
end Go.Proofs.Ythbbeiflkiihdaa.Y
