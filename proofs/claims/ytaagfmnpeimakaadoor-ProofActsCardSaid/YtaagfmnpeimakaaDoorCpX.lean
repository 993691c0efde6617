/-
  The walk of the law of a side under any calls.
-/
import Derived.Test.YtaagfmnpeimakaaDoorInD
import Derived.Test.YtaagfmnpeimakaaDoorCp9
import Derived.Test.YtaagfmnpeimakaaDoorCr1
import Derived.Test.YtaagfmnpeimakaaDoorCr3
namespace Go.Proofs.YtaagfmnpeimakaaDoor.Cp
open Go.RowKit
set_option maxRecDepth 100000
/-- Both sides in one state. -/
structure St (w : World) (B R : Nat) (wx : World) (q : Pf) (ch : List UInt8) : Prop where
  rg : Rg B wx q
  rf : Rf R wx q
  fit : q.Fit
  len : ch.length ≤ 255
  bel : Below w.heap.size w wx
theorem St.below {w : World} {B R : Nat} {wx wy : World} {q : Pf} {ch : List UInt8} (h : St w B R wx q ch) (k : Below wx.heap.size wx wy) : St w B R wy q ch := ⟨h.rg.below k, h.rf.below k, h.fit, h.len, bel2 h.bel k⟩
/-- The two blocks lie apart, behind the call's beginning. -/
structure Two (w : World) (B R : Nat) : Prop where
  b : w.heap.size ≤ B
  r : w.heap.size ≤ R
  ne : B ≠ R
theorem acs_new (w : World) (a : Act16) : ∃ w1, w1 = w.alloc (.cells #[.int .i64 a.1, .string ⟨a.2.1.toArray⟩, .int .i64 a.2.2.1.1, .int .i64 a.2.2.1.2.1, .string ⟨a.2.2.1.2.2.1.toArray⟩, .string ⟨a.2.2.1.2.2.2.toArray⟩, .bool a.2.2.2] 35) ∧ Below w.heap.size w w1 ∧ Arr w.heap.size w1 (act16C a) :=
  ⟨_, rfl, (Below.refl w.heap.size w).alloc (Nat.le_refl _) _, Arr.new w (act16C a) _⟩
theorem bel_drewN {w : World} (n : Nat) : Below w.heap.size w (w.drewN n) := ⟨rfl, rfl, rfl, Nat.le_refl _, fun _ _ => rfl⟩
theorem start_len (q : Pf) (s : List UInt8) (h : (Prf.start q s).2.2 = 0) : s.length ≤ 255 := by
  unfold Prf.start at h
  cases hm : Prf.mayCh s
  · rw [hm, if_pos rfl] at h; cases h
  · unfold Prf.mayCh at hm
    simp only [Bool.and_eq_true, decide_eq_true_eq] at hm
    exact hm.2
set_option maxHeartbeats 3200000 in
theorem acts_loop (w : World) (T : Hid (Dg.Tab w)) (x : List UInt8) (hx : x.length ≤ 64) (p : Option Addr) (n cap : Nat) (_hn : n ≤ 140737488351232) (b off : Nat) (l : Nat → Act16) (q0 : Pf) (hfit0 : Hid q0.Fit) (n0 s0 : List UInt8) (t0 : Int)
    (hi : Hid (∀ k, k < n → ∀ W : World, (Instr.indexAt 22 (.slice p n cap) (.int .i64 (k : Int))).run Tryd.prog W = .ok (.pointer (some ⟨b, off + 7 * k, none⟩)) W))
    (hc : Hid (∀ k, k < n → ∀ j u, (act16C (l k))[j]? = some u → w.cell? ⟨b, off + 7 * k + j, none⟩ = some u))
    (hl : Hid (∀ k, k < n → (l k).2.1.length ≤ 140737488351232 ∧ (l k).2.2.1.2.2.1.length ≤ 140737488351232 ∧ (l k).2.2.1.2.2.2.length ≤ 140737488351232))
    (NEW : Hid (Calls Tryd.prog 8 #[.string ⟨n0.toArray⟩, .string ⟨s0.toArray⟩, .string ⟨x.toArray⟩, .int .i64 t0] w (NewPost w q0)))
    (RNEW : Hid (∀ W, Calls Tryd.prog 9 #[.string ⟨n0.toArray⟩, .string ⟨s0.toArray⟩, .string ⟨x.toArray⟩, .int .i64 t0] W fun e w' => ∃ B, e = .returned (.tuple #[.pointer (some ⟨B, 0, none⟩), .int .i64 0]) ∧ W.heap.size ≤ B ∧ Rf B w' q0 ∧ Below W.heap.size W w')) :
    Calls Tryd.prog 3 #[.string ⟨n0.toArray⟩, .string ⟨s0.toArray⟩, .string ⟨x.toArray⟩, .int .i64 t0, .slice p n cap] w fun e w' => e = .returned (.bool true) ∧ Below w.heap.size w w' := by
  go_enter Tryd.func3, Tryd.ntmps3
  go_wp2_with (first
    | (go_at_call 8; refine NEW.out.mono ?_; rintro e w9 ⟨B, rfl, hB, hr, hb⟩; have R9 := Lib.hid hr; have B9 := Lib.hid hb; have HB9 := Lib.hid hB; clear hr hb hB)
    | (go_at_call 9; refine (RNEW.out _).mono ?_; rintro e w1 ⟨R, rfl, hR, hf, hb⟩; have S1 : Hid (St w B R w1 q0 []) := Lib.hid ⟨R9.out.below hb, hf, hfit0.out, Nat.zero_le _, bel2 B9.out hb⟩; have N : Hid (Two w B R) := Lib.hid ⟨HB9.out, Nat.le_trans B9.out.size hR, by have := R9.out.lt; omega⟩; clear hR hf hb R9 B9 HB9)
    | (go_at_call 10; refine (num_any _ _).mono ?_; rintro e w9 ⟨rfl, rfl⟩))
  clear NEW RNEW
  go_loopw [15, 16] (fun s15 s16 wr => ∃ (k : Nat) (q : Pf) (ch : List UInt8), k ≤ n ∧ k ≤ 60 ∧ s16 = .int .i64 (k : Int) ∧ s15 = .string ⟨ch.toArray⟩ ∧ St w B R wr q ch) (fun _ s16 _ => 60 - (intOf s16).toNat)
  case atStart => exact ⟨0, q0, [], Nat.zero_le _, by omega, rfl, rfl, S1.out⟩
  case round =>
    obtain ⟨k, q, ch, hk1, hk2, rfl, rfl, hs⟩ := hrel
    have S0 := Lib.hid hs
    clear hs S1
    by_cases hlt : k < n ∧ k < 60
    · obtain ⟨l1, l2⟩ := hlt
      have ix := hi.out k l1
      have hcl := Lib.hid (hc.out k l1)
      have hll := Lib.hid (hl.out k l1)
      obtain ⟨o7, ho7⟩ : ∃ o7, o7 = off + 7 * k := ⟨_, rfl⟩
      rw [← ho7] at ix hcl
      clear ho7
      generalize l k = a at *
      obtain ⟨kd, s, ⟨c, i, v, nn⟩, rt⟩ := a
      have cell : ∀ j u, (act16C (kd, s, (c, i, v, nn), rt))[j]? = some u → wr.cell? ⟨b, o7 + j, none⟩ = some u := fun j u hj => by
        have h := hcl.out j u hj
        rwa [← S0.out.bel.cell (block_lt_of_cell h)] at h
      have c0 : wr.cell? ⟨b, o7, none⟩ = some (.int .i64 kd) := cell 0 _ rfl
      have c1 := cell 1 _ rfl
      have c2 := cell 2 _ rfl
      have c3 := cell 3 _ rfl
      have c4 := cell 4 _ rfl
      have c5 := cell 5 _ rfl
      have c6 := cell 6 _ rfl
      clear cell hcl
      have hS0 : Hid (B < wr.heap.size ∧ R < wr.heap.size) := Lib.hid ⟨S0.out.rg.lt, S0.out.rf.lt⟩
      obtain ⟨w1, hw1, hb1, ha1⟩ := acs_new wr (kd, s, (c, i, v, nn), rt)
      have S1 := Lib.hid (S0.out.below hb1)
      have A1 := Lib.hid ha1
      clear hb1 ha1
      go_upto_block 2 with (fail)
      rw [← hw1]
      clear hw1 c0 c1 c2 c3 c4 c5 c6 ix S0
      have hX : Hid (wr.heap.size ≠ B ∧ wr.heap.size ≠ R) := Lib.hid (by
        have h1 := hS0.out.1
        have h2 := hS0.out.2
        omega)
      have k0 := A1.out.cell 0 _ rfl
      have zx := A1.out.lt
      go_cut [15] (fun s15 wx => ∃ (q' : Pf) (ch' : List UInt8), s15 = .string ⟨ch'.toArray⟩ ∧ St w B R wx q' ch')
      case first =>
        have hway : kd < 2 ∨ (¬ kd < 2 ∧ kd < 4) ∨ (¬ kd < 2 ∧ ¬ kd < 4) := by omega
        rcases hway with h2 | ⟨h2, h4⟩ | ⟨h2, h4⟩
        · have k1 := A1.out.cell 1 _ rfl
          obtain ⟨Q, hQ⟩ : ∃ Q, Q = Prf.start q s := ⟨_, rfl⟩
          have hfit : Hid Q.1.Fit := Lib.hid (hQ ▸ Prf.start_fit S1.out.fit s)
          have hlen : Hid (Q.2.2 = 0 → s.length ≤ 255) := Lib.hid (hQ ▸ start_len q s)
          have P1 := Lib.hid (Start_any B q s w1 S1.out.rg (Nat.le_trans S1.out.fit.name (by decide)) (Nat.le_trans hll.out.1 (by decide)))
          have P2 := Lib.hid fun W hW => rStart_any R q s W hW (Nat.le_trans hll.out.1 (by decide))
          rw [← hQ] at P1 P2
          clear hQ
          obtain ⟨q1, m, e0⟩ := Q
          have EQ := eqC_yes m.1 m.2.1 m.2.2.1 m.2.2.2
          have E1 := EQ.1
          have E2 := EQ.2.1
          have E3 := guardC
          have qe : (e0 != e0) = false := by simp
          clear EQ
          go_wp2_with fail
          refine P1.out.mono ?_
          rintro e w2 ⟨rfl, hr2, hc2⟩
          have b3 := (Below.refl w2.heap.size w2).alloc (Nat.le_refl _) (.cells #[.int .i64 m.1, .int .i64 m.2.1, .string ⟨m.2.2.1.toArray⟩, .string ⟨m.2.2.2.toArray⟩] 33)
          have R3 := Lib.hid (hr2.below b3)
          have F3 := Lib.hid ((S1.out.rf.chg hc2 (fun e => N.out.ne (Eq.symm e))).below b3)
          have A3 := Lib.hid ((Arr.chg A1.out hc2 hX.out.1).below b3)
          have M3 := Lib.hid (Arr.new w2 (mcs m) 33)
          have B3 := Lib.hid (bel2 (chg_bel S1.out.bel N.out.b hc2) b3)
          have hm2 : Hid (w2.heap.size ≠ R) := Lib.hid (by have h1 := S1.out.rf.lt; have h2 := hc2.size; omega)
          have j1 := A3.out.cell 1 _ rfl
          have zx3 := A3.out.lt
          clear hr2 hc2 b3 P1 k0 k1
          go_wp2_with fail
          refine (P2.out _ F3.out).mono ?_
          rintro e w4 ⟨rfl, hr4, hc4⟩
          have b5 := (Below.refl w4.heap.size w4).alloc (Nat.le_refl _) (.cells #[.int .i64 m.1, .int .i64 m.2.1, .string ⟨m.2.2.1.toArray⟩, .string ⟨m.2.2.2.toArray⟩] 33)
          have S5 : Hid (∀ ch', ch'.length ≤ 255 → St w B R (w4.alloc (.cells #[.int .i64 m.1, .int .i64 m.2.1, .string ⟨m.2.2.1.toArray⟩, .string ⟨m.2.2.2.toArray⟩] 33)) q1 ch') := Lib.hid fun ch' h => ⟨(R3.out.chg hc4 (fun e => N.out.ne e)).below b5, hr4.below b5, hfit.out, h, bel2 (chg_bel B3.out N.out.r hc4) b5⟩
          have M5 := (Arr.chg M3.out hc4 hm2.out).below b5
          have K5 := Arr.new w4 (mcs m) 33
          have A5 := (Arr.chg A3.out hc4 hX.out.2).below b5
          have u0 := M5.cell 0 _ rfl
          have u1 := M5.cell 1 _ rfl
          have u2 := M5.cell 2 _ rfl
          have u3 := M5.cell 3 _ rfl
          have v0 := K5.cell 0 _ rfl
          have v1 := K5.cell 1 _ rfl
          have v2 := K5.cell 2 _ rfl
          have v3 := K5.cell 3 _ rfl
          have zM := M5.lt
          have i1 := A5.cell 1 _ rfl
          have zA := A5.lt
          clear hr4 hc4 b5 M5 K5 A5 P2 R3 F3 A3 M3 B3 j1
          by_cases he : e0 = 0
          · subst he
            go_wp2_with (go_at_call 10; refine (num_any _ _).mono ?_; rintro e w9 ⟨rfl, rfl⟩)
            go_meet
            exact ⟨q1, s, rfl, S5.out s (hlen.out (by first | rfl | trivial))⟩
          · have qz : (e0 == 0) = false := by simpa using he
            go_wp2_with (go_at_call 10; refine (num_any _ _).mono ?_; rintro e w9 ⟨rfl, rfl⟩)
            go_meet
            exact ⟨q1, ch, rfl, S5.out ch S1.out.len⟩
        · clear hll
          obtain ⟨Q, hQ⟩ : ∃ Q, Q = Prf.again q := ⟨_, rfl⟩
          have hfit : Hid Q.1.Fit := Lib.hid (hQ ▸ Prf.again_fit S1.out.fit)
          have P1 := Lib.hid (Again_any B q w1 S1.out.rg S1.out.fit)
          have P2 := Lib.hid fun W hW => rAgain_any R q W hW S1.out.fit
          rw [← hQ] at P1 P2
          clear hQ
          obtain ⟨q1, m, e0⟩ := Q
          have EQ := eqC_yes m.1 m.2.1 m.2.2.1 m.2.2.2
          have E1 := EQ.1
          have E2 := EQ.2.1
          have E3 := guardC
          have qe : (e0 != e0) = false := by simp
          clear EQ
          go_wp2_with fail
          refine P1.out.mono ?_
          rintro e w2 ⟨rfl, hr2, hc2⟩
          have b3 := (Below.refl w2.heap.size w2).alloc (Nat.le_refl _) (.cells #[.int .i64 m.1, .int .i64 m.2.1, .string ⟨m.2.2.1.toArray⟩, .string ⟨m.2.2.2.toArray⟩] 33)
          have R3 := Lib.hid (hr2.below b3)
          have F3 := Lib.hid ((S1.out.rf.chg hc2 (fun e => N.out.ne (Eq.symm e))).below b3)
          have A3 := Lib.hid ((Arr.chg A1.out hc2 hX.out.1).below b3)
          have M3 := Lib.hid (Arr.new w2 (mcs m) 33)
          have B3 := Lib.hid (bel2 (chg_bel S1.out.bel N.out.b hc2) b3)
          have hm2 : Hid (w2.heap.size ≠ R) := Lib.hid (by have h1 := S1.out.rf.lt; have h2 := hc2.size; omega)
          clear hr2 hc2 b3 P1 k0
          go_wp2_with fail
          refine (P2.out _ F3.out).mono ?_
          rintro e w4 ⟨rfl, hr4, hc4⟩
          have b5 := (Below.refl w4.heap.size w4).alloc (Nat.le_refl _) (.cells #[.int .i64 m.1, .int .i64 m.2.1, .string ⟨m.2.2.1.toArray⟩, .string ⟨m.2.2.2.toArray⟩] 33)
          have S5 : Hid (∀ ch', ch'.length ≤ 255 → St w B R (w4.alloc (.cells #[.int .i64 m.1, .int .i64 m.2.1, .string ⟨m.2.2.1.toArray⟩, .string ⟨m.2.2.2.toArray⟩] 33)) q1 ch') := Lib.hid fun ch' h => ⟨(R3.out.chg hc4 (fun e => N.out.ne e)).below b5, hr4.below b5, hfit.out, h, bel2 (chg_bel B3.out N.out.r hc4) b5⟩
          have M5 := (Arr.chg M3.out hc4 hm2.out).below b5
          have K5 := Arr.new w4 (mcs m) 33
          have A5 := (Arr.chg A3.out hc4 hX.out.2).below b5
          have u0 := M5.cell 0 _ rfl
          have u1 := M5.cell 1 _ rfl
          have u2 := M5.cell 2 _ rfl
          have u3 := M5.cell 3 _ rfl
          have v0 := K5.cell 0 _ rfl
          have v1 := K5.cell 1 _ rfl
          have v2 := K5.cell 2 _ rfl
          have v3 := K5.cell 3 _ rfl
          have zM := M5.lt
          clear hr4 hc4 b5 M5 K5 A5 P2 R3 F3 A3 M3 B3
          go_wp2_with (go_at_call 10; refine (num_any _ _).mono ?_; rintro e w9 ⟨rfl, rfl⟩)
          go_meet
          exact ⟨q1, ch, rfl, S5.out ch S1.out.len⟩
        · have k2 := A1.out.cell 2 _ rfl
          have k3 := A1.out.cell 3 _ rfl
          have k4 := A1.out.cell 4 _ rfl
          have k5 := A1.out.cell 5 _ rfl
          have RC := Lib.hid fun W => Dg.rchap_any 1 x ch W (by have := S1.out.len; omega)
          have hD : Hid ((Dig.md5 (Dig.parts 1 x ch)).length ≤ 1000) := Lib.hid (by have := Prf.sum_length 1 x ch; unfold Prf.sum at this; omega)
          generalize Dig.md5 (Dig.parts 1 x ch) = D at *
          have bm := (Below.refl w1.heap.size w1).alloc (Nat.le_refl _) (.cells #[.int .i64 c, .int .i64 i, .string ⟨v.toArray⟩, .string ⟨nn.toArray⟩] 33)
          have S2 := Lib.hid (S1.out.below bm)
          have A2 := Lib.hid (A1.out.below bm)
          have M2 : Hid (Arr w1.heap.size (w1.alloc (.cells #[.int .i64 c, .int .i64 i, .string ⟨v.toArray⟩, .string ⟨nn.toArray⟩] 33)) (mcs (c, i, v, nn))) := Lib.hid (Arr.new w1 (mcs (c, i, v, nn)) 33)
          have hM : Hid (w1.heap.size ≠ B ∧ w1.heap.size ≠ R) := Lib.hid (by
            have h1 := S1.out.rg.lt
            have h2 := S1.out.rf.lt
            omega)
          obtain ⟨M, hMM⟩ : ∃ M, M = w1.heap.size := ⟨_, rfl⟩
          have hMw : Hid (w.heap.size ≤ M) := Lib.hid (by rw [hMM]; exact S1.out.bel.size)
          clear bm
          cases rt
          · obtain ⟨w2, hw2⟩ : ∃ w2, w2 = w1.alloc (.cells #[.int .i64 c, .int .i64 i, .string ⟨v.toArray⟩, .string ⟨nn.toArray⟩] 33) := ⟨_, rfl⟩
            rw [← hw2] at S2 A2 M2
            rw [← hMM] at M2 hM
            have g6 := A2.out.cell 6 _ rfl
            have zx2 := A2.out.lt
            go_upto_region 13 with (fail)
            rw [← hw2, ← hMM]
            clear hw2 hMM RC
            obtain ⟨Q, hQ⟩ : ∃ Q, Q = Prf.take q (c, i, v, nn) := ⟨_, rfl⟩
            have hfit : Hid Q.1.Fit := Lib.hid (hQ ▸ Prf.take_fit S2.out.fit _)
            have P1 := Lib.hid (Take_any B q i v nn w2 S2.out.rg c S2.out.fit (Lib.hid (T.out.below S2.out.bel)) (Nat.le_trans hll.out.2.1 (by decide)))
            have P2 := Lib.hid fun W hW => rTake_any R q c i v nn W hW S2.out.fit (Nat.le_trans hll.out.2.1 (by decide)) (Nat.le_trans hll.out.2.2 (by decide))
            rw [← hQ] at P1 P2
            clear hQ
            obtain ⟨q1, ms, e0⟩ := Q
            have qe : (e0 != e0) = false := by simp
            have p0 := M2.out.cell 0 _ rfl
            have p1 := M2.out.cell 1 _ rfl
            have p2 := M2.out.cell 2 _ rfl
            have p3 := M2.out.cell 3 _ rfl
            have zp := M2.out.lt
            go_wp2_with fail
            refine P1.out.mono ?_
            rintro e w6 ⟨v6, rfl, ho6, hr6, hc6⟩
            have R6 := Lib.hid hr6
            have F6 := Lib.hid (S2.out.rf.chg hc6 (fun e => N.out.ne (Eq.symm e)))
            have O6 := Lib.hid ho6
            have M6 := Arr.chg M2.out hc6 hM.out.1
            have B6 := Lib.hid (chg_bel S2.out.bel N.out.b hc6)
            have hR6 : Hid (R < w2.heap.size) := Lib.hid S2.out.rf.lt
            have r0 := M6.cell 0 _ rfl
            have r1 := M6.cell 1 _ rfl
            have r2 := M6.cell 2 _ rfl
            have r3 := M6.cell 3 _ rfl
            have zr := M6.lt
            clear ho6 hr6 hc6 P1 p0 p1 p2 p3 zp M6
            go_wp2_with fail
            refine (P2.out _ F6.out).mono ?_
            rintro e w7 ⟨v7, rfl, ho7, hr7, hc7⟩
            have S7 : Hid (St w B R w7 q1 ch) := Lib.hid ⟨R6.out.chg hc7 (fun e => N.out.ne e), hr7, hfit.out, S1.out.len, chg_bel B6.out N.out.r hc7⟩
            have SM := Lib.hid (same_any (O6.out.chg hc7 (fun g hg e => by have e : g = R := e; have := hR6.out; omega)) ho7)
            clear ho7 hr7 hc7 P2 r0 r1 r2 r3 zr
            go_wp2_with (first | (go_at_call 10; refine (num_any _ _).mono ?_; rintro e w9 ⟨rfl, rfl⟩) | (go_at_call 19; refine SM.out.mono ?_; rintro e w8 ⟨rfl, hb8⟩; have S8 := Lib.hid (S7.out.below hb8); clear hb8))
            go_meet
            exact ⟨q1, ch, rfl, S8.out⟩
          · obtain ⟨w2, hw2⟩ : ∃ w2, w2 = w1.alloc (.cells #[.int .i64 c, .int .i64 i, .string ⟨v.toArray⟩, .string ⟨nn.toArray⟩] 33) := ⟨_, rfl⟩
            rw [← hw2] at S2 A2 M2
            rw [← hMM] at M2 hM
            have g6 := A2.out.cell 6 _ rfl
            have zx2 := A2.out.lt
            go_upto_region 13 with (fail)
            rw [← hw2, ← hMM]
            clear hw2 hMM
            go_upto_region 15 with (first
              | (go_at_call 16; refine (RC.out _).mono ?_; rintro e w3 ⟨rfl, hb3⟩; obtain ⟨v4, s4, a4, g4⟩ := keep_msg (M2.out.below hb3) rfl (2, 1, D, [110]); have HS := Lib.hid s4; have M4 := Lib.hid a4; have C4 : Hid (Chg (One M) w3 v4) := Lib.hid (Chg.of_grown g4 fun _ e => .inr (Option.some.inj e).symm); have S4 : Hid (St w B R v4 q ch) := Lib.hid ⟨(S2.out.rg.below hb3).chg C4.out (fun e => hM.out.1 (Eq.symm e)), (S2.out.rf.below hb3).chg C4.out (fun e => hM.out.2 (Eq.symm e)), S2.out.fit, S2.out.len, chg_bel (bel2 S2.out.bel hb3) hMw.out C4.out⟩; clear hb3 s4 a4 g4)
              | (refine wpList_store rfl _ _ _ rfl ⟨M, 0, none⟩ _ v4 rfl rfl HS.out ?_))
            clear RC S2 A2 M2 g6 zx2 HS C4
            obtain ⟨Q, hQ⟩ : ∃ Q, Q = Prf.take q (2, 1, D, [110]) := ⟨_, rfl⟩
            have hfit : Hid Q.1.Fit := Lib.hid (hQ ▸ Prf.take_fit S4.out.fit _)
            have P1 := Lib.hid (Take_any B q 1 D [110] v4 S4.out.rg 2 S4.out.fit (Lib.hid (T.out.below S4.out.bel)) (Nat.le_trans hD.out (by decide)))
            have P2 := Lib.hid fun W hW => rTake_any R q 2 1 D [110] W hW S4.out.fit (Nat.le_trans hD.out (by decide)) (by decide)
            rw [← hQ] at P1 P2
            clear hQ
            obtain ⟨q1, ms, e0⟩ := Q
            have qe : (e0 != e0) = false := by simp
            have p0 := M4.out.cell 0 _ rfl
            have p1 := M4.out.cell 1 _ rfl
            have p2 := M4.out.cell 2 _ rfl
            have p3 := M4.out.cell 3 _ rfl
            have zp := M4.out.lt
            go_wp2_with fail
            refine P1.out.mono ?_
            rintro e w6 ⟨v6, rfl, ho6, hr6, hc6⟩
            have R6 := Lib.hid hr6
            have F6 := Lib.hid (S4.out.rf.chg hc6 (fun e => N.out.ne (Eq.symm e)))
            have O6 := Lib.hid ho6
            have M6 := Arr.chg M4.out hc6 hM.out.1
            have B6 := Lib.hid (chg_bel S4.out.bel N.out.b hc6)
            have hR6 : Hid (R < v4.heap.size) := Lib.hid S4.out.rf.lt
            have r0 := M6.cell 0 _ rfl
            have r1 := M6.cell 1 _ rfl
            have r2 := M6.cell 2 _ rfl
            have r3 := M6.cell 3 _ rfl
            have zr := M6.lt
            clear ho6 hr6 hc6 P1 p0 p1 p2 p3 zp M6
            go_wp2_with fail
            refine (P2.out _ F6.out).mono ?_
            rintro e w7 ⟨v7, rfl, ho7, hr7, hc7⟩
            have S7 : Hid (St w B R w7 q1 ch) := Lib.hid ⟨R6.out.chg hc7 (fun e => N.out.ne e), hr7, hfit.out, S1.out.len, chg_bel B6.out N.out.r hc7⟩
            have SM := Lib.hid (same_any (O6.out.chg hc7 (fun g hg e => by have e : g = R := e; have := hR6.out; omega)) ho7)
            clear ho7 hr7 hc7 P2 r0 r1 r2 r3 zr
            go_wp2_with (first | (go_at_call 10; refine (num_any _ _).mono ?_; rintro e w9 ⟨rfl, rfl⟩) | (go_at_call 19; refine SM.out.mono ?_; rintro e w8 ⟨rfl, hb8⟩; have S8 := Lib.hid (S7.out.below hb8); clear hb8))
            go_meet
            exact ⟨q1, ch, rfl, S8.out⟩
      case rest =>
        obtain ⟨q5, ch5, rfl, h5⟩ := hcut
        have S5 := Lib.hid h5
        clear h5 S1 A1 k0 zx
        have n1 : (q5.proved != q5.proved) = false := by simp
        have n2 : (q5.taken != q5.taken) = false := by simp
        have n3 : (q5.failed != q5.failed) = false := by simp
        have r0 := Arr.cell S5.out.rf 0 _ rfl
        have r1 := Arr.cell S5.out.rf 1 _ rfl
        have r2 := Arr.cell S5.out.rf 2 _ rfl
        have zr := S5.out.rf.lt
        go_wp2_with fail
        go_quiet (first
          | (go_at_call 20; exact Calls.quiet_of_same ((proved_any B q5 _ (S5.out.rg.below (bel_drewN _))).mono fun _ _ ⟨h1, h2⟩ => ⟨h1, h2.symm⟩))
          | (go_at_call 21; exact Calls.quiet_of_same ((taken_any B q5 _ (S5.out.rg.below (bel_drewN _))).mono fun _ _ ⟨h1, h2⟩ => ⟨h1, h2.symm⟩))
          | (go_at_call 22; exact Calls.quiet_of_same ((failed_any B q5 _ (S5.out.rg.below (bel_drewN _))).mono fun _ _ ⟨h1, h2⟩ => ⟨h1, h2.symm⟩)))
        go_wp2_with fail
        go_roundw
        case rel => exact ⟨k + 1, q5, ch5, by omega, by omega, by go_num, rfl, S5.out.below (bel_drewN nq)⟩
        case measure => simp [intOf]; omega
    · have AW := Lib.hid (awake_any wr (Lib.hid (T.out.below S0.out.bel)))
      have two : n ≤ k ∨ k < n ∧ 60 ≤ k := by omega
      clear hlt
      rcases two with g1 | ⟨g1, g2⟩
      all_goals
        go_wp2_with (go_at_call 11; refine AW.out.mono ?_; rintro e w8 ⟨rfl, hb8⟩; have B8 := Lib.hid (bel2 S0.out.bel hb8); clear hb8)
        go_ret
        exact ⟨rfl, B8.out⟩
theorem readsD_index {W : World} {v : Value} {l : List Act16} (h : ReadsD W v l) : ∃ (p : Option Addr) (cap b off : Nat), v = .slice p l.length cap ∧
    (∀ k, k < l.length → ∀ W' : World, (Instr.indexAt 22 (.slice p l.length cap) (.int .i64 (k : Int))).run Tryd.prog W' = .ok (.pointer (some ⟨b, off + 7 * k, none⟩)) W') ∧
    ∀ k (h : k < l.length), ∀ j u, (act16C l[k])[j]? = some u → W.cell? ⟨b, off + 7 * k + j, none⟩ = some u := by
  obtain ⟨p, cap, b, off, rfl, hr⟩ := h
  refine ⟨p, cap, b, off, rfl, fun k hk W' => ?_, fun k hk => (hr k hk).2⟩
  obtain ⟨rfl, _⟩ := hr k hk
  have hs : (sizeOf (Tryd.prog.elem 22)).run Tryd.prog W' = .ok 7 W' := Tryd.sizeOf35 W'
  have e := run_indexAt_slice (P := Tryd.prog) W' 22 ⟨b, off, none⟩ l.length cap .i64 (k : Int) Tryd.underlying22
  rw [if_pos (by omega), hs] at e
  simp only [Result.andThen, Int.toNat_natCast] at e
  rw [e, add16, Nat.mul_comm k 7]
set_option maxHeartbeats 1600000 in
theorem acts_bad (n0 s0 x : List UInt8) (t0 : Int) (v : Value) (w : World) (T : Hid (Dg.Tab w))
    (NEW : Hid (Calls Tryd.prog 8 #[.string ⟨n0.toArray⟩, .string ⟨s0.toArray⟩, .string ⟨x.toArray⟩, .int .i64 t0] w fun e w' => e = .returned (.tuple #[.pointer none, .int .i64 1600]) ∧ w = w'))
    (RNEW : Hid (Calls Tryd.prog 9 #[.string ⟨n0.toArray⟩, .string ⟨s0.toArray⟩, .string ⟨x.toArray⟩, .int .i64 t0] w fun e w' => e = .returned (.tuple #[.pointer none, .int .i64 1600]) ∧ w = w')) :
    Calls Tryd.prog 3 #[.string ⟨n0.toArray⟩, .string ⟨s0.toArray⟩, .string ⟨x.toArray⟩, .int .i64 t0, v] w fun e w' => e = .returned (.bool true) ∧ Below w.heap.size w w' := by
  go_enter Tryd.func3, Tryd.ntmps3
  go_wp2_with (first
    | (go_at_call 8; refine NEW.out.mono ?_; rintro e w9 ⟨rfl, rfl⟩)
    | (go_at_call 9; refine RNEW.out.mono ?_; rintro e w1 ⟨rfl, rfl⟩)
    | (go_at_call 10; refine (num_any _ _).mono ?_; rintro e w9 ⟨rfl, rfl⟩)
    | (go_at_call 11; refine (awake_any _ T).mono ?_; rintro e w8 ⟨rfl, hb8⟩; have B8 := Lib.hid hb8; clear hb8))
  go_ret
  exact ⟨rfl, B8.out⟩
theorem walk_acts (n s x : ByteArray) (t0 : Int) (v : Value) (l : List Act16) (w : World) (hn : n.size ≤ 140737488351232) (hs : s.size ≤ 140737488351232) (hx : x.size ≤ 140737488351232) (_ : (Lit.int .i64 t0).wf = true)
    (hr : ReadsD w v l) (hl : l.length ≤ 140737488351232 ∧ ∀ a ∈ l, a.2.1.length ≤ 140737488351232 ∧ a.2.2.1.2.2.1.length ≤ 140737488351232 ∧ a.2.2.1.2.2.2.length ≤ 140737488351232) (T : Dg.Tab w) :
    Calls Tryd.prog 3 #[.string n, .string s, .string x, .int .i64 t0, v] w fun e w' => e = .returned (.bool true) ∧ Below w.heap.size w w' := by
  obtain ⟨nl, rfl⟩ : ∃ l : List UInt8, n = ⟨l.toArray⟩ := ⟨n.data.toList, by simp⟩
  obtain ⟨sl, rfl⟩ : ∃ l : List UInt8, s = ⟨l.toArray⟩ := ⟨s.data.toList, by simp⟩
  obtain ⟨xl, rfl⟩ : ∃ l : List UInt8, x = ⟨l.toArray⟩ := ⟨x.data.toList, by simp⟩
  rw [sz] at hn hs hx
  cases hf : Prf.fine nl sl xl t0
  · exact acts_bad nl sl xl t0 v w (Lib.hid T) (Lib.hid (new_bad nl sl xl t0 w hf (by omega) (by omega) (by omega))) (Lib.hid (rnew_bad nl sl xl t0 w hf (by omega) (by omega) (by omega)))
  · obtain ⟨p, cap, b, off, rfl, h1, h2⟩ := readsD_index hr
    obtain ⟨_, _, h3, _, _⟩ := Prf.fine_parts hf
    refine acts_loop w (Lib.hid T) xl (Prf.fits_len h3).2 p l.length cap hl.1 b off (fun k => l.getD k (0, [], (0, 0, [], []), false)) (Prf.born nl sl xl t0) (Lib.hid (Prf.born_fit hf)) nl sl t0 (Lib.hid h1) (Lib.hid fun k hk j u hj => ?_) (Lib.hid fun k hk => ?_) (Lib.hid (new_good nl sl xl t0 w hf)) (Lib.hid fun W => rnew_good nl sl xl t0 W hf)
    · have e : l.getD k (0, [], (0, 0, [], []), false) = l[k] := by simp [List.getD, hk]
      refine h2 k hk j u ?_
      rw [← e]
      exact hj
    · have e : l.getD k (0, [], (0, 0, [], []), false) = l[k] := by simp [List.getD, hk]
      have h := hl.2 _ (List.getElem_mem hk)
      rw [← e] at h
      exact h
end Go.Proofs.YtaagfmnpeimakaaDoor.Cp
