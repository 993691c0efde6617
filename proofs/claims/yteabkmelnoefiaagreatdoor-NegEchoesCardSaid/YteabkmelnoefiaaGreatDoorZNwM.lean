/-
  Stage 15: two sides that exchange all their packets, round by round: contract of the laws' own 'open'.
  Stage 15: contract of the laws' own 'open'.
  Stage 15: the walk of the law of a side that closes.
-/
import Derived.Test.YteabkmelnoefiaaGreatDoorZ29
import Derived.Test.YteabkmelnoefiaaGreatDoorZ04
import Derived.Test.YteabkmelnoefiaaGreatDoorZ02
import Derived.Deep.DeepCutAuto
import Derived.Deep.RegionHeldLaw
namespace Go.Proofs.YteabkmelnoefiaaGreatDoor.Ng
theorem take_sound (g : Side) (p : Pk) (h : (take g p).2.2 = 0) : Ctl.code p = 0 := by
  by_cases hc : Ctl.code p = 0
  · exact hc
  · exfalso
    unfold take at h
    rw [if_pos hc] at h
    exact absurd h (show ¬ ((1500 : Int) = 0) by decide)
end Go.Proofs.YteabkmelnoefiaaGreatDoor.Ng
namespace Go.Proofs.YteabkmelnoefiaaGreatDoor.Ne
open Go.RowKit
set_option maxRecDepth 100000
theorem packs_far {n : Nat} {W W' : World} {u v : Value} {ps qs : List Ctl.Pk} (h : Packs n W u ps) (k : Packs n W v qs) (hg : W.grownBy W' v.ownBlock) (hne : ∀ g, v.ownBlock = some g → u.ownBlock ≠ some g) : Packs n W' u ps := by
  obtain ⟨rs, h1, h2⟩ := h.out
  obtain ⟨ss, k1, _⟩ := k.out
  exact ⟨rs, row_chg (S := fun g => v.ownBlock = some g) h1 (Chg.of_grown hg fun _ e => .inr e) (fun g e s => hne g s e), h2.grown k1 hg⟩
theorem rep_far {w0 W W' : World} {B n : Nat} {g : Ng.Side} {v : Value} {qs : List Ctl.Pk} (h : Rep w0 B W g) (k : Packs n W v qs) (hg : W.grownBy W' v.ownBlock) (hB : B < n) (h0 : w0.heap.size ≤ n) : Rep w0 B W' g :=
  h.chg (S := fun g => v.ownBlock = some g) (Chg.of_grown hg fun _ e => .inr e) (fun e => by have := (k.lt B e).1; omega) fun i hi e => by have := (k.lt i e).1; omega
/-- Two sides and what is on the way between them. -/
structure Pair (w0 : World) (n Bx By : Nat) (W : World) (x y : Ng.Side) : Prop where
  rx : Rep w0 Bx W x
  ry : Rep w0 By W y
  ne : Bx ≠ By
  hx : Bx < n
  hy : By < n
  hn : n ≤ W.heap.size
theorem Pair.base {w0 W : World} {n Bx By : Nat} {x y : Ng.Side} (h : Pair w0 n Bx By W x y) : w0.heap.size ≤ n := by
  have := h.rx.base.low
  have := h.hx
  omega
theorem Pair.far {w0 W W' : World} {n Bx By : Nat} {x y : Ng.Side} {v : Value} {qs : List Ctl.Pk} (h : Pair w0 n Bx By W x y) (k : Packs n W v qs) (hg : W.grownBy W' v.ownBlock) : Pair w0 n Bx By W' x y :=
  ⟨rep_far h.rx k hg h.hx h.base, rep_far h.ry k hg h.hy h.base, h.ne, h.hx, h.hy, Nat.le_trans h.hn hg.size⟩
theorem Pair.stepX {w0 W W' : World} {n Bx By : Nat} {x x' y : Ng.Side} (h : Pair w0 n Bx By W x y) (k : Chg (One Bx) W W') (r : Rep w0 Bx W' x') : Pair w0 n Bx By W' x' y :=
  ⟨r, h.ry.aside k h.ne.symm h.rx.base.low, h.ne, h.hx, h.hy, Nat.le_trans h.hn k.size⟩
theorem Pair.stepY {w0 W W' : World} {n Bx By : Nat} {x y y' : Ng.Side} (h : Pair w0 n Bx By W x y) (k : Chg (One By) W W') (r : Rep w0 By W' y') : Pair w0 n Bx By W' x y' :=
  ⟨h.rx.aside k h.ne h.ry.base.low, r, h.ne, h.hx, h.hy, Nat.le_trans h.hn k.size⟩
/-- One side (y, in block 'B') takes what lies in a slice, packet by packet; what it answers goes into another. -/
structure Half (n B2 B : Nat) (w0 wr w : World) (s : Ng.Script) (i j k : Nat) (x y : Ng.Side) (pre todo tail out : List Ctl.Pk) (vP vD vT u : Value) : Prop where
  pair : Pair w0 n B2 B w x y
  at_ : Ng.At s i (j + k) x y (pre ++ out) (todo.drop k ++ tail)
  pp : Packs n w vP pre
  pd : Packs n w vD todo
  pt : Packs n w vT tail
  pn : Packs n w u out
  own : ∀ g, u.ownBlock = some g → wr.heap.size ≤ g
  oldP : ∀ g, vP.ownBlock = some g → g < wr.heap.size
  oldD : ∀ g, vD.ownBlock = some g → g < wr.heap.size
  oldT : ∀ g, vT.ownBlock = some g → g < wr.heap.size
  size : wr.heap.size ≤ w.heap.size
  low : n ≤ wr.heap.size
theorem At.len {s : Ng.Script} (G : Ng.Good s) (h1 : s.hx.length ≤ 3) (h2 : s.hy.length ≤ 3) {i j : Nat} {x y : Ng.Side} {toX toY : List Ctl.Pk} (h : Ng.At s i j x y toX toY) : toX.length ≤ 3 ∧ toY.length ≤ 3 := by
  have e1 := congrArg List.length h.tx
  have e2 := congrArg List.length h.ty
  rw [Ng.cut_length _ _ _ (G.oyle j h.hj2)] at e1
  rw [Ng.cut_length _ _ _ (G.oxle i h.hi2)] at e2
  have := G.oyle j h.hj2
  have := G.oxle i h.hi2
  omega
theorem Pair.swap {w0 W : World} {n Bx By : Nat} {x y : Ng.Side} (h : Pair w0 n Bx By W x y) : Pair w0 n By Bx W y x := ⟨h.ry, h.rx, h.ne.symm, h.hy, h.hx, h.hn⟩
theorem Half.go {n B2 B : Nat} {w0 wr w : World} {s : Ng.Script} {i j k : Nat} {x y : Ng.Side} {pre todo tail out : List Ctl.Pk} {vP vD vT u : Value} (h : Half n B2 B w0 wr w s i j k x y pre todo tail out vP vD vT u) (G : Ng.Good s) (hk : k < todo.length) :
    ∃ y' ps, Ng.take y todo[k] = (y', ps, 0) ∧ Ng.At s i (j + (k + 1)) x y' (pre ++ (out ++ ps)) (todo.drop (k + 1) ++ tail) := by
  have ha := h.at_
  rw [List.drop_eq_getElem_cons hk, List.cons_append] at ha
  obtain ⟨y', ps, h1, h2⟩ := ha.goY G
  rw [List.append_assoc] at h2
  exact ⟨y', ps, h1, h2⟩
theorem Half.next {n B2 B : Nat} {w0 wr w : World} {s : Ng.Script} {i j k : Nat} {x y : Ng.Side} {pre todo tail out : List Ctl.Pk} {vP vD vT u : Value} (h : Half n B2 B w0 wr w s i j k x y pre todo tail out vP vD vT u)
    {y' : Ng.Side} {ps : List Ctl.Pk} {w2 w3 : World} {u' : Value} (ht : Ng.At s i (j + (k + 1)) x y' (pre ++ (out ++ ps)) (todo.drop (k + 1) ++ tail)) (hc : Chg (One B) w w2) (hr : Rep w0 B w2 y')
    (h3 : Packs n w3 u' (out ++ ps)) (ho : ∀ g, u'.ownBlock = some g → wr.heap.size ≤ g) (hg : w2.grownBy w3 u.ownBlock) : Half n B2 B w0 wr w3 s i j (k + 1) x y' pre todo tail (out ++ ps) vP vD vT u' := by
  have hu := packs_aside h.pn hc h.pair.hy
  refine ⟨(h.pair.stepY hc hr).far hu hg, ht, packs_far (packs_aside h.pp hc h.pair.hy) hu hg fun g e e2 => ?_, packs_far (packs_aside h.pd hc h.pair.hy) hu hg fun g e e2 => ?_, packs_far (packs_aside h.pt hc h.pair.hy) hu hg fun g e e2 => ?_, h3, ho, h.oldP, h.oldD, h.oldT, Nat.le_trans h.size (Nat.le_trans hc.size hg.size), h.low⟩
  · have := h.own g e; have := h.oldP g e2; omega
  · have := h.own g e; have := h.oldD g e2; omega
  · have := h.own g e; have := h.oldT g e2; omega
/-- A side takes a packet that lies in a slice. -/
theorem take_at {w0 W : World} {B n : Nat} {g : Ng.Side} {v : Value} {ps : List Ctl.Pk} (h : Rep w0 B W g) (hp : Packs n W v ps) (k : Nat) (hk : k < ps.length) (g' : Ng.Side) (out : List Ctl.Pk) (ht : Ng.take g ps[k] = (g', out, 0)) :
    ∃ G cap u, v = .slice (some ⟨G, 0, none⟩) ps.length cap ∧ W.cell? ⟨G, 4 * k, none⟩ = some (.int .i64 ps[k].1) ∧ W.cell? ⟨G, 4 * k + 1, none⟩ = some (.int .i64 ps[k].2.1) ∧ W.cell? ⟨G, 4 * k + 2, none⟩ = some u ∧ W.cell? ⟨G, 4 * k + 3, none⟩ = some (.string ⟨ps[k].2.2.2.toArray⟩) ∧
      (∃ p c, u = .slice p ps[k].2.2.1.length c) ∧ Calls Tryz.prog 21 #[.pointer (some ⟨B, 0, none⟩), .agg #[.int .i64 ps[k].1, .int .i64 ps[k].2.1, u, .string ⟨ps[k].2.2.2.toArray⟩]] W (Answers w0 B W (g', out, 0)) := by
  obtain ⟨G, cap, u, e, _, _, c0, c1, c2, c3, hr⟩ := hp.at k hk
  have hs := Ng.take_sound g ps[k] (by rw [ht])
  obtain ⟨_, _, s3, _, _, s6⟩ := sound ps[k].1 ps[k].2.1 ps[k].2.2.1 ps[k].2.2.2 hs
  refine ⟨G, cap, u, e, c0, c1, c2, c3, hr.form, ?_⟩
  have := side_take h ps[k].1 ps[k].2.1 u ps[k].2.2.1 ps[k].2.2.2 hr.reads (by omega) (by omega)
  rwa [show (ps[k].1, ps[k].2.1, ps[k].2.2.1, ps[k].2.2.2) = ps[k] from rfl, ht] at this
end Go.Proofs.YteabkmelnoefiaaGreatDoor.Ne
namespace Go.Proofs.YteabkmelnoefiaaGreatDoor.Ne
open Go.RowKit
set_option maxRecDepth 100000
set_option maxHeartbeats 12800000 in
theorem open_any (a b : Pol.Lk) (ha : Pol.may a = true) (hb : Pol.may b = true) (hm : ¬ (a.magic ≠ 0 ∧ a.magic = b.magic)) (w : World) (ST : U.StepOk w) :
    Calls Tryz.prog 29 #[.agg (Pl.lcs a).toArray, .agg (Pl.lcs b).toArray] w fun e w' => ∃ Bx By n x y, e = .returned (.tuple #[.pointer (some ⟨Bx, 0, none⟩), .pointer (some ⟨By, 0, none⟩), .bool true]) ∧ Ng.Opened 8 x y ∧ Pair w n Bx By w' x y := by
  obtain ⟨s, G, l1, l2, A0, FIN⟩ := Ng.terms a b 8 ha hb hm
  have fa : Ng.fine a 8 = true := by unfold Ng.fine; rw [ha]; rfl
  have fb : Ng.fine b 8 = true := by unfold Ng.fine; rw [hb]; rfl
  have up : ∀ l : Pol.Lk, ∃ g, Ng.step (Ng.fresh l 8) 2 = (g, [], 0) ∧ Ng.step g 0 = (Ng.asking l 8, [(1, 1, (Pol.ask l).1, [])], 0) := fun l => by
    obtain ⟨U2, U3⟩ := Ng.up_asks l 8
    exact ⟨(Ng.step (Ng.fresh l 8) 2).1, by rw [← U3], U2⟩
  obtain ⟨ga, ua1, ua2⟩ := up a
  obtain ⟨gb, ub1, ub2⟩ := up b
  have NA := Lib.hid fun W (k : Below w.heap.size w W) => side_new ST k a 8 fa
  have NB := Lib.hid fun W (k : Below w.heap.size w W) => side_new ST k b 8 fb
  have XA := Lib.hid fun B W (h : Rep w B W (Ng.fresh a 8)) => side_do h 2
  have XB := Lib.hid fun B W (h : Rep w B W (Ng.fresh b 8)) => side_do h 2
  have YA := Lib.hid fun B W (h : Rep w B W ga) => side_do h 0
  have YB := Lib.hid fun B W (h : Rep w B W gb) => side_do h 0
  rw [ua1] at XA
  rw [ub1] at XB
  rw [ua2] at YA
  rw [ub2] at YB
  have GG := Lib.hid G
  have LL := Lib.hid (show s.hx.length ≤ 3 ∧ s.hy.length ≤ 3 from ⟨l1, l2⟩)
  have AA := Lib.hid A0
  have FF := Lib.hid FIN
  generalize Ng.fresh a 8 = a0 at *
  generalize Ng.fresh b 8 = b0 at *
  generalize Ng.asking a 8 = a2 at *
  generalize Ng.asking b 8 = b2 at *
  generalize (Pol.ask a).1 = ka at *
  generalize (Pol.ask b).1 = kb at *
  obtain ⟨w1, hw1⟩ : ∃ w1, w1 = (w.alloc (.cells (Pl.lcs a).toArray 23)).alloc (.cells (Pl.lcs b).toArray 23) := ⟨_, rfl⟩
  have HB : Hid (Below w.heap.size w w1) := Lib.hid (hw1 ▸ ((Below.refl w.heap.size w).alloc (Nat.le_refl _) _).alloc (by simp) _)
  have KA : Hid (Pl.Lnk w.heap.size w1 a) := Lib.hid (hw1 ▸ (Pl.Lnk.new w a).below ((Below.refl _ _).alloc (Nat.le_refl _) _))
  have KB : Hid (Pl.Lnk (w.heap.size + 1) w1 b) := Lib.hid (hw1 ▸ Pl.Lnk.new_at (w.alloc (.cells (Pl.lcs a).toArray 23)) b (w.heap.size + 1) (by simp))
  have NU := Lib.hid num_any
  clear G l1 l2 A0 FIN fa fb up ua1 ua2 ub1 ub2 ST ha hb hm
  go_enter Tryz.func29, Tryz.ntmps29
  go_upto_region 1 with (fail)
  rw [← hw1]
  clear hw1
  go_wp2_with (first
    | (refine Pl.step_link rfl _ rfl w.heap.size a rfl KA.out ?_)
    | (go_at_call 12; (with_reducible refine (NA.out w1 HB.out).mono ?_); rintro e w2 ⟨Bx, rfl, hB, hr, k⟩; have R2 := Lib.hid hr; have KB2 := Lib.hid (KB.out.below k); have HX := Lib.hid hr.lt; clear hr hB k)
    | (refine Pl.step_link rfl _ rfl (w.heap.size + 1) b rfl KB2.out ?_)
    | (go_at_call 12; (with_reducible refine (NB.out w2 R2.out.base.bel).mono ?_); rintro e w3 ⟨By, rfl, hB, hr, k⟩; have P3 : Hid (Pair w w3.heap.size Bx By w3 a0 b0) := Lib.hid ⟨R2.out.below k, hr, by have := HX.out; omega, by have := HX.out; have := k.size; omega, hr.lt, Nat.le_refl _⟩; have C3 := Lib.hid (XA.out _ _ P3.out.rx); clear hr hB k)
    | (go_at_call 14; (refine (NU.out _ _).mono ?_); rintro e v1 ⟨rfl, rfl⟩)
    | (go_at_call 16; (with_reducible refine C3.out.mono ?_); rintro e w4 ⟨v4, rfl, hs⟩; have P4 := Lib.hid (P3.out.stepX hs.chg hs.rep); have C4 := Lib.hid (XB.out _ _ P4.out.ry); clear hs)
    | (go_at_call 16; (with_reducible refine C4.out.mono ?_); rintro e w5 ⟨v5, rfl, hs⟩; have P5 := Lib.hid (P4.out.stepY hs.chg hs.rep); have C5 := Lib.hid (YA.out _ _ P5.out.rx); clear hs)
    | (go_at_call 16; (with_reducible refine C5.out.mono ?_); rintro e w6 ⟨v6, rfl, hs⟩; have P6 := Lib.hid (P5.out.stepX hs.chg hs.rep); have Q6 := Lib.hid (hs.packs.mono P5.out.hn); have C6 := Lib.hid (YB.out _ _ P6.out.ry); clear hs)
    | (go_at_call 16; (with_reducible refine C6.out.mono ?_); rintro e w7 ⟨v7, rfl, hs⟩; have P7 := Lib.hid (P6.out.stepY hs.chg hs.rep); have Q7 := Lib.hid (packs_aside Q6.out hs.chg P6.out.hy); have S7 := Lib.hid (hs.packs.mono P6.out.hn); clear hs))
  go_loopw [11, 13, 15] (fun vy vx i wr => ∃ (r i' j' : Nat) (x y : Ng.Side) (toX toY : List Ctl.Pk), i = .int .i64 (r : Int) ∧ r ≤ i' + j' ∧ Ng.At s i' j' x y toX toY ∧ Pair w w3.heap.size Bx By wr x y ∧ Packs w3.heap.size wr vx toX ∧ Packs w3.heap.size wr vy toY) (fun _ _ i _ => 41 - (intOf i).toNat)
  case atStart => exact ⟨0, 0, 0, _, _, _, _, rfl, Nat.zero_le _, AA.out, P7.out, S7.out, Q7.out⟩
  case round =>
    obtain ⟨r, i', j', x, y, toX, toY, rfl, hr, hat, hp, hX, hY⟩ := hrel
    have hfew := hat.few GG.out
    have hlen := At.len GG.out LL.out.1 LL.out.2 hat
    have hll := LL.out
    have hr6 : r ≤ 6 := by omega
    obtain ⟨pX, cX, eX⟩ := hX.form
    obtain ⟨pY, cY, eY⟩ := hY.form
    subst eX eY
    have q1 : decide ((r : Int) < 40) = true := decide_eq_true (by omega)
    have q2 : wrap64 ((toX.length : Int) + (toY.length : Int)) = (toX.length : Int) + (toY.length : Int) := IntWalk.wrap64_in _ ⟨by omega, by omega⟩
    have HP := Lib.hid hp
    have HX := Lib.hid hX
    have HY := Lib.hid hY
    have HAT := Lib.hid hat
    have HR := Lib.hid hr
    clear hp hX hY hat hr
    by_cases hnone : toX = [] ∧ toY = []
    · obtain ⟨rfl, rfl⟩ := hnone
      obtain ⟨OP⟩ := FF.out _ _ _ _ HAT.out
      have OP2 := Lib.hid OP
      obtain ⟨u, v, ia, ib, hx, hy, _⟩ := OP
      have SX := Lib.hid (side_state HP.out.rx)
      have SY := Lib.hid (side_state HP.out.ry)
      rw [show x.st = 9 by rw [hx]; rfl] at SX
      rw [show y.st = 9 by rw [hy]; rfl] at SY
      clear hx hy
      go_wp2_with (first
        | (go_at_call 24; (with_reducible refine SX.out.mono ?_); rintro e v1 ⟨rfl, rfl⟩)
        | (go_at_call 24; (with_reducible refine SY.out.mono ?_); rintro e v1 ⟨rfl, rfl⟩))
      go_ret3
      exact ⟨Bx, By, w3.heap.size, x, y, rfl, ⟨OP2.out⟩, HP.out⟩
    · have hpos : 0 < toX.length + toY.length := by
        rcases Nat.eq_zero_or_pos (toX.length + toY.length) with h | h
        · exact absurd ⟨List.length_eq_zero_iff.1 (by omega), List.length_eq_zero_iff.1 (by omega)⟩ hnone
        · exact h
      have q3 : decide ((0 : Int) < (toX.length : Int) + (toY.length : Int)) = true := decide_eq_true (by omega)
      have hsum : Hid (1 ≤ toX.length + toY.length) := Lib.hid hpos
      clear hnone
      have BX := Lib.hid HX.out.lt
      have BY := Lib.hid HY.out.lt
      go_wp2_with fail
      go_loopw [16, 18] (fun u k wk => ∃ (k' : Nat) (y' : Ng.Side) (out : List Ctl.Pk), k = .int .i64 (k' : Int) ∧ k' ≤ toY.length ∧ Half w3.heap.size Bx By w wr wk s i' j' k' x y' toX toY [] out (.slice pX toX.length cX) (.slice pY toY.length cY) (.slice none 0 0) u) (fun _ k _ => toY.length - (intOf k).toNat)
      case atStart =>
        refine ⟨0, y, [], rfl, Nat.zero_le _, ⟨HP.out, ?_, HX.out, HY.out, Packs.nil _ _, Packs.nil _ _, fun g e => (by cases e), fun g e => (BX.out g e).2, fun g e => (BY.out g e).2, fun g e => (by cases e), Nat.le_refl _, HP.out.hn⟩⟩
        rw [List.append_nil, List.append_nil]
        exact HAT.out
      case round =>
        obtain ⟨k', y', out, rfl, hk, hh⟩ := hrel
        have H := Lib.hid hh
        clear hh
        by_cases hlt : k' < toY.length
        · obtain ⟨y2, ps, ht, hat2⟩ := H.out.go GG.out hlt
          obtain ⟨Gb, cap, uo, e0, c0, c1, c2, c3, ⟨po, co, eo⟩, CT⟩ := take_at H.out.pair.ry H.out.pd k' hlt y2 ps ht
          have LN : Hid ((out.length + ps.length) * 56 ≤ 140737488355328) := Lib.hid (by
            have := (At.len GG.out LL.out.1 LL.out.2 hat2).1
            simp only [List.length_append] at this
            omega)
          have hi := pks_index Gb 0 toY.length cap k' hlt
          obtain ⟨rfl, rfl⟩ : pY = some ⟨Gb, 0, none⟩ ∧ cY = cap := by simpa using e0
          have HT := Lib.hid hat2
          have CT := Lib.hid CT
          clear ht hat2 e0
          subst eo
          generalize toY[k'] = p at *
          obtain ⟨o8, ho8⟩ : ∃ o8, o8 = 4 * k' := ⟨_, rfl⟩
          rw [Nat.zero_add] at hi
          rw [← ho8] at hi c0 c1 c2 c3
          clear ho8
          go_wp2_with (first
            | (go_at_call 21; (refine CT.out.mono ?_); rintro e w2' ⟨v2, rfl, hs⟩; have CH := Lib.hid hs.chg; have RP := Lib.hid hs.rep; have PS := Lib.hid (hs.packs.mono H.out.pair.hn); have UU := Lib.hid (packs_aside H.out.pn hs.chg H.out.pair.hy); clear hs)
            | (at_builtin; refine wp_catP rfl _ _ rfl _ w3.heap.size out ps UU.out H.out.own (Nat.le_trans H.out.size CH.out.size) H.out.low PS.out rfl rfl LN.out ?_; intro u3 w3' hp3 ho3 hg3; have NX := Lib.hid (H.out.next HT.out CH.out RP.out hp3 ho3 hg3); clear hp3 ho3 hg3))
          go_roundw
          case rel => exact ⟨k' + 1, y2, out ++ ps, by go_num, by omega, NX.out⟩
          case measure => simp [intOf]; omega
        · obtain rfl : k' = toY.length := by omega
          have hA := H.out.at_
          rw [List.drop_length, List.nil_append] at hA
          have HA := Lib.hid hA
          have BU := Lib.hid H.out.pn.lt
          have BX2 := Lib.hid H.out.pp.lt
          obtain ⟨pu, cu, eu⟩ := H.out.pn.form
          subst eu
          clear hA
          go_wp2_with fail
          go_loopw [17, 21] (fun u k wq => ∃ (k' : Nat) (x' : Ng.Side) (out2 : List Ctl.Pk), k = .int .i64 (k' : Int) ∧ k' ≤ toX.length ∧ Half w3.heap.size By Bx w wr wq s.swap (j' + toY.length) i' k' y' x' [] toX out out2 (.slice none 0 0) (.slice pX toX.length cX) (.slice pu out.length cu) u) (fun _ k _ => toX.length - (intOf k).toNat)
          case atStart =>
            refine ⟨0, x, [], rfl, Nat.zero_le _, ⟨H.out.pair.swap, ?_, Packs.nil _ _, H.out.pp, H.out.pn, Packs.nil _ _, fun g e => (by cases e), fun g e => (by cases e), fun g e => (BX2.out g e).2, fun g e => (BU.out g e).2, Nat.le_refl _, H.out.pair.hn⟩⟩
            rw [List.append_nil]
            exact HA.out.swap
          case round =>
            obtain ⟨k', x', out2, rfl, hk2, hh⟩ := hrel
            have H2 := Lib.hid hh
            clear hh
            by_cases hlt : k' < toX.length
            · obtain ⟨x2, ps, ht, hat2⟩ := H2.out.go GG.out.swap hlt
              obtain ⟨Gb, cap, uo, e0, c0, c1, c2, c3, ⟨po, co, eo⟩, CT⟩ := take_at H2.out.pair.ry H2.out.pd k' hlt x2 ps ht
              have LN : Hid ((out2.length + ps.length) * 56 ≤ 140737488355328) := Lib.hid (by
                have := (At.len GG.out.swap LL.out.2 LL.out.1 hat2).1
                simp only [List.length_append] at this
                omega)
              have hi := pks_index Gb 0 toX.length cap k' hlt
              obtain ⟨rfl, rfl⟩ : pX = some ⟨Gb, 0, none⟩ ∧ cX = cap := by simpa using e0
              have HT := Lib.hid hat2
              have CT := Lib.hid CT
              clear ht hat2 e0
              subst eo
              generalize toX[k'] = p at *
              obtain ⟨o8, ho8⟩ : ∃ o8, o8 = 4 * k' := ⟨_, rfl⟩
              rw [Nat.zero_add] at hi
              rw [← ho8] at hi c0 c1 c2 c3
              clear ho8
              go_wp2_with (first
                | (go_at_call 21; (refine CT.out.mono ?_); rintro e w2' ⟨v2, rfl, hs⟩; have CH := Lib.hid hs.chg; have RP := Lib.hid hs.rep; have PS := Lib.hid (hs.packs.mono H2.out.pair.hn); have UU := Lib.hid (packs_aside H2.out.pn hs.chg H2.out.pair.hy); clear hs)
                | (at_builtin; refine wp_catP rfl _ _ rfl _ w3.heap.size out2 ps UU.out H2.out.own (Nat.le_trans H2.out.size CH.out.size) H2.out.low PS.out rfl rfl LN.out ?_; intro u3 w3' hp3 ho3 hg3; have NX := Lib.hid (H2.out.next HT.out CH.out RP.out hp3 ho3 hg3); clear hp3 ho3 hg3))
              go_roundw
              case rel => exact ⟨k' + 1, x2, out2 ++ ps, by go_num, by omega, NX.out⟩
              case measure => simp [intOf]; omega
            · obtain rfl : k' = toX.length := by omega
              have hA2 := H2.out.at_
              rw [List.drop_length, List.nil_append, List.nil_append] at hA2
              have HA2 := Lib.hid hA2.swap
              have q4 : wrap64 ((r : Int) + 1) = ((r + 1 : Nat) : Int) := by rw [IntWalk.wrap64_in _ ⟨by omega, by omega⟩]; omega
              clear hA2
              go_wp2_with fail
              go_roundw
              case rel => exact ⟨r + 1, i' + toX.length, j' + toY.length, x', y', out, out2, by go_num, by have := hsum.out; have := HR.out; omega, HA2.out, H2.out.pair.swap, H2.out.pt, H2.out.pn⟩
              case measure => simp [intOf]; omega
end Go.Proofs.YteabkmelnoefiaaGreatDoor.Ne
namespace Go.Proofs.YteabkmelnoefiaaGreatDoor.Ne
open Go.RowKit
set_option maxRecDepth 100000
theorem rep_drew {w0 : World} {B : Nat} {W : World} {g : Ng.Side} (h : Rep w0 B W g) : Rep w0 B W.drew g := h.below (Below.refl W.heap.size W).drew
set_option maxHeartbeats 12800000 in
theorem closes_good (a b : Pol.Lk) (ha : Pol.may a = true) (hb : Pol.may b = true) (hm : ¬ (a.magic ≠ 0 ∧ a.magic = b.magic)) (w : World) (ST : U.StepOk w) :
    Calls Tryz.prog 6 #[.agg (Pl.lcs a).toArray, .agg (Pl.lcs b).toArray] w fun e w' => e = .returned (.bool true) ∧ Below w.heap.size w w' := by
  obtain ⟨w1, hw1⟩ : ∃ w1, w1 = (w.alloc (.cells (Pl.lcs a).toArray 23)).alloc (.cells (Pl.lcs b).toArray 23) := ⟨_, rfl⟩
  have HB : Hid (Below w.heap.size w w1) := Lib.hid (hw1 ▸ ((Below.refl w.heap.size w).alloc (Nat.le_refl _) _).alloc (by simp) _)
  have KA : Hid (Pl.Lnk w.heap.size w1 a) := Lib.hid (hw1 ▸ (Pl.Lnk.new w a).below ((Below.refl _ _).alloc (Nat.le_refl _) _))
  have KB : Hid (Pl.Lnk (w.heap.size + 1) w1 b) := Lib.hid (hw1 ▸ Pl.Lnk.new_at (w.alloc (.cells (Pl.lcs a).toArray 23)) b (w.heap.size + 1) (by simp))
  have AW := Lib.hid (awake_any w1 (U.StepOk.later ST HB.out))
  have MA := Lib.hid fun W => Pl.may_any a W
  have MB := Lib.hid fun W => Pl.may_any b W
  rw [ha] at MA
  rw [hb] at MB
  have OP := Lib.hid fun W (k : Below w.heap.size w W) => open_any a b ha hb hm W (U.StepOk.later ST k)
  have NU := Lib.hid num_any
  have hc : (a.magic != 0) = false ∨ ((a.magic != 0) = true ∧ (a.magic == b.magic) = false) := by
    by_cases h0 : a.magic = 0
    · exact .inl (by simpa using h0)
    · exact .inr ⟨by simpa using h0, by simpa using fun e => hm ⟨h0, e⟩⟩
  clear ST ha hb hm
  rcases hc with q1 | ⟨q1, q2⟩
  all_goals
    go_enter Tryz.func6, Tryz.ntmps6
    go_upto_region 1 with (fail)
    rw [← hw1]
    clear hw1
    go_upto_region 6 with (first
      | (go_at_call 15; (refine AW.out.mono ?_); rintro e w2 ⟨rfl, hb⟩; have B2 := Lib.hid (bel2 HB.out hb); have KA2 := Lib.hid (KA.out.below hb); have KB2 := Lib.hid (KB.out.below hb); clear hb)
      | (refine Pl.step_link rfl _ rfl w.heap.size a rfl (by with_reducible first | exact KA2.out | exact KA4.out) ?_)
      | (go_at_call 28; (with_reducible refine (MA.out w2).mono ?_); rintro e w3 ⟨rfl, hb⟩; have B3 := Lib.hid (bel2 B2.out hb); have KA3 := Lib.hid (KA2.out.below hb); have KB3 := Lib.hid (KB2.out.below hb); clear hb)
      | (refine Pl.step_link rfl _ rfl (w.heap.size + 1) b rfl (by with_reducible first | exact KB3.out | exact KB4.out) ?_)
      | (go_at_call 28; (refine (MB.out _).mono ?_); rintro e w4 ⟨rfl, hb⟩; have B4 := Lib.hid (bel2 B3.out hb); have KA4 := Lib.hid (KA3.out.below hb); have KB4 := Lib.hid (KB3.out.below hb); have m1 := (KA3.out.below hb).cell 1 _ rfl; have m2 := (KB3.out.below hb).cell 1 _ rfl; have z1 := (KA3.out.below hb).lt; have z2 := (KB3.out.below hb).lt; clear hb)
      | (go_at_call 29; (refine (OP.out _ B4.out).mono ?_); rintro e w5 ⟨Bx, By, n, x, y, rfl, ho, hp⟩; have HO := Lib.hid ho; have P5 := Lib.hid hp; clear ho hp m1 m2 z1 z2))
    obtain ⟨u, v, ia, ib, hx, hy, _, _, _, i0, i1', _, _⟩ := HO.out.go
    obtain ⟨i1, hi1⟩ : ∃ i1, i1 = ia + 1 := ⟨_, rfl⟩
    have hi : 0 ≤ i1 ∧ i1 ≤ 255 := by omega
    have E1 := Ng.closes u v 8 ia ⟨by omega, by omega⟩
    rw [← hx, ← hi1] at E1
    have E2 := Ng.answers_close v u 8 ib i1 hi
    rw [← hy] at E2
    have E3 := Ng.closed u v (Ng.less 8) 8 i1 ia i1 hi
    have E4 := Ng.rests v u 8 ib
    obtain ⟨x2, hx2⟩ : ∃ x2, x2 = Ng.at_ 4 u v (Ng.less 8) 8 i1 ia := ⟨_, rfl⟩
    obtain ⟨x3, hx3⟩ : ∃ x3, x3 = Ng.at_ 2 u v (Ng.less 8) 8 i1 ia := ⟨_, rfl⟩
    obtain ⟨y2, hy2⟩ : ∃ y2, y2 = Ng.mk 5 v u 0 8 ib := ⟨_, rfl⟩
    obtain ⟨y3, hy3⟩ : ∃ y3, y3 = Ng.mk 3 v u 0 8 ib := ⟨_, rfl⟩
    rw [← hx2] at E1 E3
    rw [← hx3] at E3
    rw [← hy2] at E2 E4
    rw [← hy3] at E4
    have sx2 : x2.st = 4 := by rw [hx2]; rfl
    have sx3 : x3.st = 2 := by rw [hx3]; rfl
    have sy2 : y2.st = 5 := by rw [hy2]; rfl
    have sy3 : y3.st = 3 := by rw [hy3]; rfl
    have D1 := Lib.hid (side_do P5.out.rx 3)
    rw [E1] at D1
    have T1 := Lib.hid fun W (h : Rep w4 By W y) va (hr : ReadsO W va []) => side_take h 5 i1 va [] [] hr (Nat.zero_le _) (Nat.zero_le _)
    rw [E2] at T1
    have T2 := Lib.hid fun W (h : Rep w4 Bx W x2) va (hr : ReadsO W va []) => side_take h 6 i1 va [] [] hr (Nat.zero_le _) (Nat.zero_le _)
    rw [E3] at T2
    have D2 := Lib.hid fun W (h : Rep w4 By W y2) => side_do h 4
    rw [E4] at D2
    clear E1 E2 E3 E4 hx hy hi1 hi hx2 hx3 hy2 hy3 i0 i1'
    go_upto_region 12 with (first
      | (go_at_call 16; (with_reducible refine D1.out.mono ?_); rintro e w6 ⟨v6, rfl, hs⟩; have P6 := Lib.hid (P5.out.stepX hs.chg hs.rep); obtain ⟨ga, ca, ua, ea, hga, za, a0, a1, a2, a3, hra⟩ := packs_one hs.packs; subst ea; have RA := Lib.hid hra; have ia := first_index ga ca; obtain ⟨pu, cu, hu⟩ := hra.form; subst hu; have A1 := Lib.hid a1; have GA : Hid (By ≠ ga ∧ Bx ≠ ga) := Lib.hid (by have := P5.out.hy; have := P5.out.hx; have := P5.out.hn; constructor <;> omega); have SX := Lib.hid (side_state P6.out.rx); rw [sx2] at SX; have C6 := Lib.hid (T1.out _ P6.out.ry _ hra.reads); clear hs hra hga)
      | (go_at_call 14; (refine (NU.out _ _).mono ?_); rintro e v1 ⟨rfl, rfl⟩)
      | (go_at_call 24; (with_reducible refine SX.out.mono ?_); rintro e v1 ⟨rfl, rfl⟩)
      | (go_at_call 21; (refine C6.out.mono ?_); rintro e w7 ⟨v7, rfl, hs⟩; have P7 := Lib.hid (P6.out.stepY hs.chg hs.rep); obtain ⟨gb, cb, ub, eb, hgb, zb, b0, b1, b2, b3, hrb⟩ := packs_one hs.packs; subst eb; have RB := Lib.hid hrb; have ib2 := first_index gb cb; obtain ⟨pu2, cu2, hu2⟩ := hrb.form; subst hu2; have A7 : Hid (w7.cell? ⟨ga, 1, none⟩ = some (.int .i64 i1)) := Lib.hid ((World.cell?_of_block (a := ⟨ga, 1, none⟩) (hs.chg.kept ga za (fun e => GA.out.1 e.symm))).trans A1.out); have Q0 := Lib.hid b0; have Q1 := Lib.hid b1; have Q2 := Lib.hid b2; have Q3 := Lib.hid b3; have SY := Lib.hid (side_state (rep_drew P7.out.ry)); rw [sy2] at SY; clear hs hrb hgb a0 a1 a2 a3 b0 b1 b2 b3))
    have SM : Hid (∀ a0, Below w7.heap.size w7 a0 → a0.cell? ⟨ga, 1, none⟩ = some (.int .i64 i1) ∧ a0.cell? ⟨gb, 0, none⟩ = some (.int .i64 6) ∧ a0.cell? ⟨gb, 1, none⟩ = some (.int .i64 i1) ∧ a0.cell? ⟨gb, 2, none⟩ = some (.slice pu2 0 cu2) ∧ a0.cell? ⟨gb, 3, none⟩ = some (.string ⟨#[]⟩)) := Lib.hid fun a0 k => ⟨cell_below A7.out k, cell_below Q0.out k, cell_below Q1.out k, cell_below Q2.out k, cell_below Q3.out k⟩
    go_region_held (fun a0 => a0.cell? ⟨ga, 1, none⟩ = some (.int .i64 i1) ∧ a0.cell? ⟨gb, 0, none⟩ = some (.int .i64 6) ∧ a0.cell? ⟨gb, 1, none⟩ = some (.int .i64 i1) ∧ a0.cell? ⟨gb, 2, none⟩ = some (.slice pu2 0 cu2) ∧ a0.cell? ⟨gb, 3, none⟩ = some (.string ⟨#[]⟩))
      (with_reducible (first | assumption | exact SM.out _ (Below.refl _ w7).drew))
      (first
        | (go_at_call 14; (refine (NU.out _ _).mono ?_); rintro e v1 ⟨rfl, rfl⟩)
        | (go_at_call 24; (refine SY.out.mono ?_); rintro e v1 ⟨rfl, rfl⟩))
    obtain ⟨n1, n2, n3, n4, n5⟩ := SM.out _ (Below.refl _ w7).drew
    have C8 := Lib.hid (T2.out w7.drew (rep_drew P7.out.rx) _ RB.out.reads.drew)
    have P8 : Hid (Pair w4 n Bx By w7.drew x2 y2) := Lib.hid ⟨rep_drew P7.out.rx, rep_drew P7.out.ry, P7.out.ne, P7.out.hx, P7.out.hy, P7.out.hn⟩
    go_wp2_with (first
      | (go_at_call 21; (refine C8.out.mono ?_); rintro e w9 ⟨v9, rfl, hs⟩; have P9 := Lib.hid (P8.out.stepX hs.chg hs.rep); obtain ⟨p9, d9, e9⟩ := hs.packs.form; subst e9; have C9 := Lib.hid (D2.out _ P9.out.ry); clear hs)
      | (go_at_call 16; (refine C9.out.mono ?_); rintro e w10 ⟨v10, rfl, hs⟩; have P10 := Lib.hid (P9.out.stepY hs.chg hs.rep); have SX3 := Lib.hid (side_state P10.out.rx); have SY3 := Lib.hid (side_state P10.out.ry); rw [sx3] at SX3; rw [sy3] at SY3; clear hs)
      | (go_at_call 14; (refine (NU.out _ _).mono ?_); rintro e v1 ⟨rfl, rfl⟩)
      | (go_at_call 24; (with_reducible refine SX3.out.mono ?_); rintro e v1 ⟨rfl, rfl⟩)
      | (go_at_call 24; (with_reducible refine SY3.out.mono ?_); rintro e v1 ⟨rfl, rfl⟩))
    go_ret
    exact ⟨rfl, bel2 B4.out P10.out.rx.base.bel⟩
end Go.Proofs.YteabkmelnoefiaaGreatDoor.Ne
