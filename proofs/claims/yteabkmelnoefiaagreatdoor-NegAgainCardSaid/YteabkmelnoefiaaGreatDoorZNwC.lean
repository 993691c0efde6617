/-
  Stage 15: the walk of the law of two sides, one asked anew.
  Stage 15's law of two sides, one asked anew, as its frame takes it.
-/
import Derived.Test.YteabkmelnoefiaaGreatDoorZNwM
import Derived.Test.YteabkmelnoefiaaGreatDoorZ04
import Derived.Test.YteabkmelnoefiaaGreatDoorZ09
namespace Go.Proofs.YteabkmelnoefiaaGreatDoor.Ne
open Go.RowKit
set_option maxRecDepth 100000
set_option maxHeartbeats 6400000 in
theorem again_early (a b : Pol.Lk) (h : ¬ (Pol.may a = true ∧ Pol.may b = true ∧ ¬ (a.magic ≠ 0 ∧ a.magic = b.magic))) (w : World) (ST : U.StepOk w) :
    Calls Tryz.prog 8 #[.agg (Pl.lcs a).toArray, .agg (Pl.lcs b).toArray] w fun e w' => e = .returned (.bool true) ∧ Below w.heap.size w w' := by
  obtain ⟨w1, hw1⟩ : ∃ w1, w1 = (w.alloc (.cells (Pl.lcs a).toArray 23)).alloc (.cells (Pl.lcs b).toArray 23) := ⟨_, rfl⟩
  have HB : Hid (Below w.heap.size w w1) := Lib.hid (hw1 ▸ ((Below.refl w.heap.size w).alloc (Nat.le_refl _) _).alloc (by simp) _)
  have KA : Hid (Pl.Lnk w.heap.size w1 a) := Lib.hid (hw1 ▸ (Pl.Lnk.new w a).below ((Below.refl _ _).alloc (Nat.le_refl _) _))
  have KB : Hid (Pl.Lnk (w.heap.size + 1) w1 b) := Lib.hid (hw1 ▸ Pl.Lnk.new_at (w.alloc (.cells (Pl.lcs a).toArray 23)) b (w.heap.size + 1) (by simp))
  have AW := Lib.hid (awake_any w1 (U.StepOk.later ST HB.out))
  have MA : Hid (∀ W, Calls Tryz.prog 28 #[.agg #[.int .i64 a.mru, .int .i64 a.magic, .int .i64 a.mrru, .bool a.short, .string ⟨a.disc.toArray⟩, .int .i64 a.num]] W fun e w' => e = .returned (.bool (Pol.may a)) ∧ Below W.heap.size W w') := Lib.hid fun W => Pl.may_any a W
  have MB : Hid (∀ W, Calls Tryz.prog 28 #[.agg #[.int .i64 b.mru, .int .i64 b.magic, .int .i64 b.mrru, .bool b.short, .string ⟨b.disc.toArray⟩, .int .i64 b.num]] W fun e w' => e = .returned (.bool (Pol.may b)) ∧ Below W.heap.size W w') := Lib.hid fun W => Pl.may_any b W
  have hc : Pol.may a = false ∨ (Pol.may a = true ∧ Pol.may b = false) ∨ (Pol.may a = true ∧ Pol.may b = true ∧ (a.magic != 0) = true ∧ (a.magic == b.magic) = true) := by
    cases ha : Pol.may a
    · exact .inl rfl
    · cases hb : Pol.may b
      · exact .inr (.inl ⟨rfl, rfl⟩)
      · refine .inr (.inr ⟨rfl, rfl, ?_⟩)
        rw [ha, hb] at h
        have : a.magic ≠ 0 ∧ a.magic = b.magic := Classical.byContradiction fun k => h ⟨rfl, rfl, k⟩
        exact ⟨by simpa using this.1, by simpa using this.2⟩
  clear ST h
  rcases hc with ha | ⟨ha, hb⟩ | ⟨ha, hb, q1, q2⟩
  · rw [ha] at MA
    clear ha MB
    go_enter Tryz.func8, Tryz.ntmps8
    go_upto_region 1 with (fail)
    rw [← hw1]
    clear hw1
    go_wp2_with (first
      | (go_at_call 15; (refine AW.out.mono ?_); rintro e w2 ⟨rfl, hb⟩; have B2 := Lib.hid (bel2 HB.out hb); have KA2 := Lib.hid (KA.out.below hb); have kA0 := Arr.cell KA2.out 0 _ rfl; have kA1 := Arr.cell KA2.out 1 _ rfl; have kA2 := Arr.cell KA2.out 2 _ rfl; have kA3 := Arr.cell KA2.out 3 _ rfl; have kA4 := Arr.cell KA2.out 4 _ rfl; have kA5 := Arr.cell KA2.out 5 _ rfl; have zA := KA2.out.lt; clear hb)
      | (go_at_call 28; (refine (MA.out _).mono ?_); rintro e w3 ⟨rfl, hb⟩; have B3 := Lib.hid (bel2 B2.out hb); clear hb))
    go_ret
    exact ⟨rfl, B3.out⟩
  · rw [ha] at MA
    rw [hb] at MB
    clear ha hb
    go_enter Tryz.func8, Tryz.ntmps8
    go_upto_region 1 with (fail)
    rw [← hw1]
    clear hw1
    go_wp2_with (first
      | (go_at_call 15; (refine AW.out.mono ?_); rintro e w2 ⟨rfl, hb⟩; have B2 := Lib.hid (bel2 HB.out hb); have KA2 := Lib.hid (KA.out.below hb); have KB2 := Lib.hid (KB.out.below hb); have kA0 := Arr.cell KA2.out 0 _ rfl; have kA1 := Arr.cell KA2.out 1 _ rfl; have kA2 := Arr.cell KA2.out 2 _ rfl; have kA3 := Arr.cell KA2.out 3 _ rfl; have kA4 := Arr.cell KA2.out 4 _ rfl; have kA5 := Arr.cell KA2.out 5 _ rfl; have zA := KA2.out.lt; clear hb)
      | (go_at_call 28; (with_reducible refine (MA.out w2).mono ?_); rintro e w3 ⟨rfl, hb⟩; have B3 := Lib.hid (bel2 B2.out hb); have KB3 := Lib.hid (KB2.out.below hb); have kB0 := Arr.cell KB3.out 0 _ rfl; have kB1 := Arr.cell KB3.out 1 _ rfl; have kB2 := Arr.cell KB3.out 2 _ rfl; have kB3 := Arr.cell KB3.out 3 _ rfl; have kB4 := Arr.cell KB3.out 4 _ rfl; have kB5 := Arr.cell KB3.out 5 _ rfl; have zB := KB3.out.lt; clear hb)
      | (go_at_call 28; (refine (MB.out _).mono ?_); rintro e w4 ⟨rfl, hb⟩; have B4 := Lib.hid (bel2 B3.out hb); clear hb))
    go_ret
    exact ⟨rfl, B4.out⟩
  · rw [ha] at MA
    rw [hb] at MB
    clear ha hb
    go_enter Tryz.func8, Tryz.ntmps8
    go_upto_region 1 with (fail)
    rw [← hw1]
    clear hw1
    go_wp2_with (first
      | (go_at_call 15; (refine AW.out.mono ?_); rintro e w2 ⟨rfl, hb⟩; have B2 := Lib.hid (bel2 HB.out hb); have KA2 := Lib.hid (KA.out.below hb); have KB2 := Lib.hid (KB.out.below hb); have kA0 := Arr.cell KA2.out 0 _ rfl; have kA1 := Arr.cell KA2.out 1 _ rfl; have kA2 := Arr.cell KA2.out 2 _ rfl; have kA3 := Arr.cell KA2.out 3 _ rfl; have kA4 := Arr.cell KA2.out 4 _ rfl; have kA5 := Arr.cell KA2.out 5 _ rfl; have zA := KA2.out.lt; clear hb)
      | (go_at_call 28; (with_reducible refine (MA.out w2).mono ?_); rintro e w3 ⟨rfl, hb⟩; have B3 := Lib.hid (bel2 B2.out hb); have KA3 := Lib.hid (KA2.out.below hb); have KB3 := Lib.hid (KB2.out.below hb); have kB0 := Arr.cell KB3.out 0 _ rfl; have kB1 := Arr.cell KB3.out 1 _ rfl; have kB2 := Arr.cell KB3.out 2 _ rfl; have kB3 := Arr.cell KB3.out 3 _ rfl; have kB4 := Arr.cell KB3.out 4 _ rfl; have kB5 := Arr.cell KB3.out 5 _ rfl; have zB := KB3.out.lt; clear hb)
      | (go_at_call 28; (refine (MB.out _).mono ?_); rintro e w4 ⟨rfl, hb⟩; have B4 := Lib.hid (bel2 B3.out hb); have m1 := (KA3.out.below hb).cell 1 _ rfl; have m2 := (KB3.out.below hb).cell 1 _ rfl; have z1 := (KA3.out.below hb).lt; have z2 := (KB3.out.below hb).lt; clear hb))
    go_ret
    exact ⟨rfl, B4.out⟩
set_option maxHeartbeats 25600000 in
theorem again_good' (a b : Pol.Lk) (ha : Pol.may a = true) (hb : Pol.may b = true) (hm : ¬ (a.magic ≠ 0 ∧ a.magic = b.magic)) (w : World) (ST : U.StepOk w) :
    Calls Tryz.prog 8 #[.agg (Pl.lcs a).toArray, .agg (Pl.lcs b).toArray] w fun e w' => e = .returned (.bool true) ∧ Below w.heap.size w w' := by
  obtain ⟨w1, hw1⟩ : ∃ w1, w1 = (w.alloc (.cells (Pl.lcs a).toArray 23)).alloc (.cells (Pl.lcs b).toArray 23) := ⟨_, rfl⟩
  have HB : Hid (Below w.heap.size w w1) := Lib.hid (hw1 ▸ ((Below.refl w.heap.size w).alloc (Nat.le_refl _) _).alloc (by simp) _)
  have KA : Hid (Pl.Lnk w.heap.size w1 a) := Lib.hid (hw1 ▸ (Pl.Lnk.new w a).below ((Below.refl _ _).alloc (Nat.le_refl _) _))
  have KB : Hid (Pl.Lnk (w.heap.size + 1) w1 b) := Lib.hid (hw1 ▸ Pl.Lnk.new_at (w.alloc (.cells (Pl.lcs a).toArray 23)) b (w.heap.size + 1) (by simp))
  have AW := Lib.hid (awake_any w1 (U.StepOk.later ST HB.out))
  have MA := Lib.hid fun W => Pl.may_any a W
  have MB := Lib.hid fun W => Pl.may_any b W
  rw [ha] at MA
  rw [hb] at MB
  have OP := Lib.hid fun W (k : Below w.heap.size w W) => open_any a b ha hb hm W (U.StepOk.later ST k)
  have NU := Lib.hid num_any
  have hc : (a.magic != 0) = false ∨ ((a.magic != 0) = true ∧ (a.magic == b.magic) = false) := by
    by_cases h0 : a.magic = 0
    · exact .inl (by simpa using h0)
    · exact .inr ⟨by simpa using h0, by simpa using fun e => hm ⟨h0, e⟩⟩
  clear ST ha hb hm
  rcases hc with q1 | ⟨q1, q2⟩
  all_goals
    go_enter Tryz.func8, Tryz.ntmps8
    go_upto_region 1 with (fail)
    rw [← hw1]
    clear hw1
    go_upto_region 8 with (first
      | (go_at_call 15; (refine AW.out.mono ?_); rintro e w2 ⟨rfl, hb⟩; have B2 := Lib.hid (bel2 HB.out hb); have KA2 := Lib.hid (KA.out.below hb); have KB2 := Lib.hid (KB.out.below hb); clear hb)
      | (refine Pl.step_link rfl _ rfl w.heap.size a rfl (by with_reducible first | exact KA2.out | exact KA4.out) ?_)
      | (go_at_call 28; (with_reducible refine (MA.out w2).mono ?_); rintro e w3 ⟨rfl, hb⟩; have B3 := Lib.hid (bel2 B2.out hb); have KA3 := Lib.hid (KA2.out.below hb); have KB3 := Lib.hid (KB2.out.below hb); clear hb)
      | (refine Pl.step_link rfl _ rfl (w.heap.size + 1) b rfl (by with_reducible first | exact KB3.out | exact KB4.out) ?_)
      | (go_at_call 28; (refine (MB.out _).mono ?_); rintro e w4 ⟨rfl, hb⟩; have B4 := Lib.hid (bel2 B3.out hb); have KA4 := Lib.hid (KA3.out.below hb); have KB4 := Lib.hid (KB3.out.below hb); have m1 := (KA3.out.below hb).cell 1 _ rfl; have m2 := (KB3.out.below hb).cell 1 _ rfl; have z1 := (KA3.out.below hb).lt; have z2 := (KB3.out.below hb).lt; clear hb)
      | (go_at_call 29; (refine (OP.out _ B4.out).mono ?_); rintro e w5 ⟨Bx, By, n, x, y, rfl, ho, hp⟩; have HO := Lib.hid ho; have P5 := Lib.hid hp; clear ho hp m1 m2 z1 z2))
    obtain ⟨u, v, ia, ib, hx, hy, f1, f2, hsh, i0, i1', j0, j1⟩ := HO.out.go
    have hia : 0 ≤ ia ∧ ia ≤ 254 := by omega
    have hib : 0 ≤ ib ∧ ib ≤ 254 := by omega
    obtain ⟨E1, E2⟩ := Ng.anew v u 8 ib f1.2.1 hib
    rw [← hy] at E1 E2
    obtain ⟨g1, hg1⟩ : ∃ g, g = (Ng.step y 1).1 := ⟨_, rfl⟩
    have E0 : Ng.step y 1 = (g1, [], 0) := by rw [hg1, ← E2]
    rw [← hg1] at E1
    have GG := Lib.hid (Ng.again_good u v 8 ia ib f1 f2 hsh hia hib)
    have A0 : Ng.At (Ng.again u v 8 ia ib) 0 0 x (Ng.mk 6 v u (Ng.less 8) 8 (ib + 1)) [(1, ib + 1, Pol.asks v, [])] [] := ⟨by simp [Ng.again], by simp [Ng.again], by simp [Ng.again], by simp [Ng.again], by simp, by simp, hx, rfl, rfl, rfl⟩
    have FF := Lib.hid fun i j x y (h : Ng.At (Ng.again u v 8 ia ib) i j x y [] []) => Ng.again_rest u v 8 ia ib f1 f2 hsh hia hib h
    have LL := Lib.hid (show (Ng.again u v 8 ia ib).hx.length ≤ 3 ∧ (Ng.again u v 8 ia ib).hy.length ≤ 3 from ⟨by simp [Ng.again], by simp [Ng.again]⟩)
    have D1 := Lib.hid (side_do P5.out.ry 1)
    rw [E0] at D1
    have D2 := Lib.hid fun W (h : Rep w4 By W g1) => side_do h 0
    rw [E1] at D2
    have AA := Lib.hid A0
    have hub : Hid (u.disc.length ≤ 20 ∧ v.disc.length ≤ 20) := Lib.hid ⟨((Pol.may_iff u).1 f1.1).2.2.2.2.1, ((Pol.may_iff v).1 f1.2.1).2.2.2.2.1⟩
    have ea : Ng.Side → Prop := fun _ => True
    have QU : Hid (∀ l : Pol.Lk, ∀ W : World, (binOp .eql 23 (Pl.lv l) (Pl.lv l)).run Tryz.prog W = .ok (.bool true) W) := Lib.hid fun l => by have h := (Pl.eqL_any l l).2.2; rw [decide_eq_true rfl] at h; exact h
    have gu := fun op p q W => Pl.guard_lv op p q u u W
    have gv := fun op p q W => Pl.guard_lv op p q v v W
    have bu := QU.out u
    have bv := QU.out v
    generalize Ng.mk 6 v u (Ng.less 8) 8 (ib + 1) = y2 at *
    generalize Pol.asks v = kv at *
    obtain ⟨s, hs0⟩ : ∃ s, s = Ng.again u v 8 ia ib := ⟨_, rfl⟩
    rw [← hs0] at GG AA FF LL
    clear E0 E1 E2 A0 hg1 hx hy f1 f2 hsh i0 i1' j0 j1 hia hib ea hs0
    go_wp2_with (first
      | (go_at_call 16; (with_reducible refine D1.out.mono ?_); rintro e w6 ⟨v6, rfl, hs⟩; have P6 := Lib.hid (P5.out.stepY hs.chg hs.rep); have C6 := Lib.hid (D2.out _ P6.out.ry); clear hs)
      | (go_at_call 16; (with_reducible refine C6.out.mono ?_); rintro e w7 ⟨v7, rfl, hs⟩; have P7 := Lib.hid (P6.out.stepY hs.chg hs.rep); have S7 := Lib.hid (hs.packs.mono P6.out.hn); clear hs))
    go_loopw [8, 10, 11] (fun vx vy i wr => ∃ (r i' j' : Nat) (x y : Ng.Side) (toX toY : List Ctl.Pk), i = .int .i64 (r : Int) ∧ r ≤ i' + j' ∧ Ng.At s i' j' x y toX toY ∧ Pair w4 n Bx By wr x y ∧ Packs n wr vx toX ∧ Packs n wr vy toY) (fun _ _ i _ => 41 - (intOf i).toNat)
    case atStart => exact ⟨0, 0, 0, _, _, _, _, rfl, Nat.zero_le _, AA.out, P7.out, S7.out, Packs.nil _ _⟩
    case round =>
      obtain ⟨r, i', j', x, y, toX, toY, rfl, hr, hat, hp, hX, hY⟩ := hrel
      have hfew := hat.few GG.out
      have hlen := At.len GG.out LL.out.1 LL.out.2 hat
      have hll := LL.out
      have hr6 : r ≤ 6 := by omega
      obtain ⟨pX, cX, eX⟩ := hX.form
      obtain ⟨pY, cY, eY⟩ := hY.form
      subst eX eY
      have q1 : decide ((r : Int) < 40) = true := decide_eq_true (by omega)
      have q2 : wrap64 ((toX.length : Int) + (toY.length : Int)) = (toX.length : Int) + (toY.length : Int) := IntWalk.wrap64_in _ ⟨by omega, by omega⟩
      have HP := Lib.hid hp
      have HX := Lib.hid hX
      have HY := Lib.hid hY
      have HAT := Lib.hid hat
      have HR := Lib.hid hr
      clear hp hX hY hat hr
      by_cases hnone : toX = [] ∧ toY = []
      · obtain ⟨rfl, rfl⟩ := hnone
        obtain ⟨hx, hy⟩ := FF.out _ _ _ _ HAT.out
        have SX := Lib.hid (side_state HP.out.rx)
        have SY := Lib.hid (side_state HP.out.ry)
        rw [show x.st = 9 by rw [hx]; rfl] at SX
        rw [show y.st = 9 by rw [hy]; rfl] at SY
        have OX := Lib.hid fun W (h : Rep w4 Bx W x) => side_other h
        have OY := Lib.hid fun W (h : Rep w4 By W y) => side_own h
        have PY := Lib.hid fun W (h : Rep w4 By W y) => side_other h
        have PX := Lib.hid fun W (h : Rep w4 Bx W x) => side_own h
        rw [show x.other = v by rw [hx]; rfl] at OX
        rw [show y.own = v by rw [hy]; rfl] at OY
        rw [show y.other = u by rw [hy]; rfl] at PY
        rw [show x.own = u by rw [hx]; rfl] at PX
        clear hx hy
        go_wp2_with (first
          | (go_at_call 14; (refine (NU.out _ _).mono ?_); rintro e v1 ⟨rfl, rfl⟩)
          | (go_at_call 24; (with_reducible refine SX.out.mono ?_); rintro e v1 ⟨rfl, rfl⟩)
          | (go_at_call 24; (with_reducible refine SY.out.mono ?_); rintro e v1 ⟨rfl, rfl⟩)
          | (go_at_call 26; (with_reducible refine (OX.out wr HP.out.rx).mono ?_); rintro e wa ⟨rfl, hb⟩; have RA := Lib.hid (HP.out.ry.below hb); have RX := Lib.hid (HP.out.rx.below hb); clear hb)
          | (go_at_call 25; (with_reducible refine (OY.out wa RA.out).mono ?_); rintro e wb ⟨rfl, hb⟩; have RB := Lib.hid (RA.out.below hb); have RX2 := Lib.hid (RX.out.below hb); clear hb)
          | (go_at_call 26; (with_reducible refine (PY.out wb RB.out).mono ?_); rintro e wc ⟨rfl, hb⟩; have RX3 := Lib.hid (RX2.out.below hb); clear hb)
          | (go_at_call 25; (with_reducible refine (PX.out wc RX3.out).mono ?_); rintro e wd ⟨rfl, hb⟩; have RD := Lib.hid (RX3.out.below hb); clear hb))
        go_ret
        exact ⟨rfl, bel2 B4.out RD.out.base.bel⟩
      · have hpos : 0 < toX.length + toY.length := by
          rcases Nat.eq_zero_or_pos (toX.length + toY.length) with h | h
          · exact absurd ⟨List.length_eq_zero_iff.1 (by omega), List.length_eq_zero_iff.1 (by omega)⟩ hnone
          · exact h
        have q3 : decide ((0 : Int) < (toX.length : Int) + (toY.length : Int)) = true := decide_eq_true (by omega)
        have hsum : Hid (1 ≤ toX.length + toY.length) := Lib.hid hpos
        clear hnone
        have BX := Lib.hid HX.out.lt
        have BY := Lib.hid HY.out.lt
        go_wp2_with fail
        go_loopw [12, 14] (fun u k wk => ∃ (k' : Nat) (y' : Ng.Side) (out : List Ctl.Pk), k = .int .i64 (k' : Int) ∧ k' ≤ toY.length ∧ Half n Bx By w4 wr wk s i' j' k' x y' toX toY [] out (.slice pX toX.length cX) (.slice pY toY.length cY) (.slice none 0 0) u) (fun _ k _ => toY.length - (intOf k).toNat)
        case atStart =>
          refine ⟨0, y, [], rfl, Nat.zero_le _, ⟨HP.out, ?_, HX.out, HY.out, Packs.nil _ _, Packs.nil _ _, fun g e => (by cases e), fun g e => (BX.out g e).2, fun g e => (BY.out g e).2, fun g e => (by cases e), Nat.le_refl _, HP.out.hn⟩⟩
          rw [List.append_nil, List.append_nil]
          exact HAT.out
        case round =>
          obtain ⟨k', y', out, rfl, hk, hh⟩ := hrel
          have H := Lib.hid hh
          clear hh
          by_cases hlt : k' < toY.length
          · obtain ⟨y2, ps, ht, hat2⟩ := H.out.go GG.out hlt
            obtain ⟨Gb, cap, uo, e0, c0, c1, c2, c3, ⟨po, co, eo⟩, CT⟩ := take_at H.out.pair.ry H.out.pd k' hlt y2 ps ht
            have LN : Hid ((out.length + ps.length) * 56 ≤ 140737488355328) := Lib.hid (by
              have := (At.len GG.out LL.out.1 LL.out.2 hat2).1
              simp only [List.length_append] at this
              omega)
            have hi := pks_index Gb 0 toY.length cap k' hlt
            obtain ⟨rfl, rfl⟩ : pY = some ⟨Gb, 0, none⟩ ∧ cY = cap := by simpa using e0
            have HT := Lib.hid hat2
            have CT := Lib.hid CT
            clear ht hat2 e0
            subst eo
            generalize toY[k'] = p at *
            obtain ⟨o8, ho8⟩ : ∃ o8, o8 = 4 * k' := ⟨_, rfl⟩
            rw [Nat.zero_add] at hi
            rw [← ho8] at hi c0 c1 c2 c3
            clear ho8
            go_wp2_with (first
              | (go_at_call 21; (refine CT.out.mono ?_); rintro e w2' ⟨v2, rfl, hs⟩; have CH := Lib.hid hs.chg; have RP := Lib.hid hs.rep; have PS := Lib.hid (hs.packs.mono H.out.pair.hn); have UU := Lib.hid (packs_aside H.out.pn hs.chg H.out.pair.hy); clear hs)
              | (at_builtin; refine wp_catP rfl _ _ rfl _ n out ps UU.out H.out.own (Nat.le_trans H.out.size CH.out.size) H.out.low PS.out rfl rfl LN.out ?_; intro u3 w3' hp3 ho3 hg3; have NX := Lib.hid (H.out.next HT.out CH.out RP.out hp3 ho3 hg3); clear hp3 ho3 hg3))
            go_roundw
            case rel => exact ⟨k' + 1, y2, out ++ ps, by go_num, by omega, NX.out⟩
            case measure => simp [intOf]; omega
          · obtain rfl : k' = toY.length := by omega
            have hA := H.out.at_
            rw [List.drop_length, List.nil_append] at hA
            have HA := Lib.hid hA
            have BU := Lib.hid H.out.pn.lt
            have BX2 := Lib.hid H.out.pp.lt
            obtain ⟨pu, cu, eu⟩ := H.out.pn.form
            subst eu
            clear hA
            go_wp2_with fail
            go_loopw [13, 17] (fun u k wq => ∃ (k' : Nat) (x' : Ng.Side) (out2 : List Ctl.Pk), k = .int .i64 (k' : Int) ∧ k' ≤ toX.length ∧ Half n By Bx w4 wr wq s.swap (j' + toY.length) i' k' y' x' [] toX out out2 (.slice none 0 0) (.slice pX toX.length cX) (.slice pu out.length cu) u) (fun _ k _ => toX.length - (intOf k).toNat)
            case atStart =>
              refine ⟨0, x, [], rfl, Nat.zero_le _, ⟨H.out.pair.swap, ?_, Packs.nil _ _, H.out.pp, H.out.pn, Packs.nil _ _, fun g e => (by cases e), fun g e => (by cases e), fun g e => (BX2.out g e).2, fun g e => (BU.out g e).2, Nat.le_refl _, H.out.pair.hn⟩⟩
              rw [List.append_nil]
              exact HA.out.swap
            case round =>
              obtain ⟨k', x', out2, rfl, hk2, hh⟩ := hrel
              have H2 := Lib.hid hh
              clear hh
              by_cases hlt : k' < toX.length
              · obtain ⟨x2, ps, ht, hat2⟩ := H2.out.go GG.out.swap hlt
                obtain ⟨Gb, cap, uo, e0, c0, c1, c2, c3, ⟨po, co, eo⟩, CT⟩ := take_at H2.out.pair.ry H2.out.pd k' hlt x2 ps ht
                have LN : Hid ((out2.length + ps.length) * 56 ≤ 140737488355328) := Lib.hid (by
                  have := (At.len GG.out.swap LL.out.2 LL.out.1 hat2).1
                  simp only [List.length_append] at this
                  omega)
                have hi := pks_index Gb 0 toX.length cap k' hlt
                obtain ⟨rfl, rfl⟩ : pX = some ⟨Gb, 0, none⟩ ∧ cX = cap := by simpa using e0
                have HT := Lib.hid hat2
                have CT := Lib.hid CT
                clear ht hat2 e0
                subst eo
                generalize toX[k'] = p at *
                obtain ⟨o8, ho8⟩ : ∃ o8, o8 = 4 * k' := ⟨_, rfl⟩
                rw [Nat.zero_add] at hi
                rw [← ho8] at hi c0 c1 c2 c3
                clear ho8
                go_wp2_with (first
                  | (go_at_call 21; (refine CT.out.mono ?_); rintro e w2' ⟨v2, rfl, hs⟩; have CH := Lib.hid hs.chg; have RP := Lib.hid hs.rep; have PS := Lib.hid (hs.packs.mono H2.out.pair.hn); have UU := Lib.hid (packs_aside H2.out.pn hs.chg H2.out.pair.hy); clear hs)
                  | (at_builtin; refine wp_catP rfl _ _ rfl _ n out2 ps UU.out H2.out.own (Nat.le_trans H2.out.size CH.out.size) H2.out.low PS.out rfl rfl LN.out ?_; intro u3 w3' hp3 ho3 hg3; have NX := Lib.hid (H2.out.next HT.out CH.out RP.out hp3 ho3 hg3); clear hp3 ho3 hg3))
                go_roundw
                case rel => exact ⟨k' + 1, x2, out2 ++ ps, by go_num, by omega, NX.out⟩
                case measure => simp [intOf]; omega
              · obtain rfl : k' = toX.length := by omega
                have hA2 := H2.out.at_
                rw [List.drop_length, List.nil_append, List.nil_append] at hA2
                have HA2 := Lib.hid hA2.swap
                have q4 : wrap64 ((r : Int) + 1) = ((r + 1 : Nat) : Int) := by rw [IntWalk.wrap64_in _ ⟨by omega, by omega⟩]; omega
                clear hA2
                go_wp2_with fail
                go_roundw
                case rel => exact ⟨r + 1, i' + toX.length, j' + toY.length, x', y', out, out2, by go_num, by have := hsum.out; have := HR.out; omega, HA2.out, H2.out.pair.swap, H2.out.pt, H2.out.pn⟩
                case measure => simp [intOf]; omega
end Go.Proofs.YteabkmelnoefiaaGreatDoor.Ne
namespace Go.Proofs.YteabkmelnoefiaaGreatDoor.Ne
open Go.RowKit
theorem walk_again (a b : Pol.Lk) (w : World) (ST : U.StepOk w) : Calls Tryz.prog 8 #[Pl.lv a, Pl.lv b] w fun e w' => e = .returned (.bool true) ∧ Below w.heap.size w w' := by
  by_cases h : Pol.may a = true ∧ Pol.may b = true ∧ ¬ (a.magic ≠ 0 ∧ a.magic = b.magic)
  · exact again_good' a b h.1 h.2.1 h.2.2 w ST
  · exact again_early a b h w ST
end Go.Proofs.YteabkmelnoefiaaGreatDoor.Ne
namespace Go.Proofs.YteabkmelnoefiaaGreatDoor.U
open Go.RowKit
theorem law_negAgain (a b : Pol.Lk) (w : World) (T : Tab w) :
    Calls Tryz.prog 8 #[Pl.lv a, Pl.lv b] w fun e w' => e = .returned (.bool true) ∧ Below w.heap.size w w' := Ne.walk_again a b w (step_any T)
end Go.Proofs.YteabkmelnoefiaaGreatDoor.U
