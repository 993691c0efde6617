/-
  Stage 15: what is done with a nak or a reject; with any packet; contracts of Take, of Do, of New.
  Stage 15: contracts of Take, of Do, of New.
  Stage 15: contract of New; a side as the laws' walks take it.
  Stage 15: packets in the walks of the laws; what every program answers that is one.
-/
import Derived.Test.YteabkmelnoefiaaGreatDoorZ27
import Derived.Test.YteabkmelnoefiaaGreatDoorZ28
import Derived.Test.YteabkmelnoefiaaGreatDoorZ11
import Derived.Test.YteabkmelnoefiaaGreatDoorZ03
import Derived.Test.YteabkmelnoefiaaGreatDoorZ02
namespace Go.Proofs.YteabkmelnoefiaaGreatDoor.Ne
open Go.RowKit
set_option maxRecDepth 100000
theorem post_base {n B : Nat} {w w1 : World} {r : Mem × List Ctl.Pk × Int} (hb : Below w.heap.size w w1) {e : Ending} {w' : World} (h : TakePost n B w1 r e w') : TakePost n B w r e w' := by
  obtain ⟨v, h1, h2, h3, h4⟩ := h
  exact ⟨v, h1, h2, h3, chg_below hb h4⟩
/-- The world ahead of the side: there the automaton's table lies. -/
structure Base (w0 : World) (B : Nat) (w : World) : Prop where
  step : U.StepOk w0
  bel : Below w0.heap.size w0 w
  low : w0.heap.size ≤ B
theorem Base.ok {w0 w : World} {B : Nat} (h : Base w0 B w) : U.StepOk w := U.StepOk.later h.step h.bel
theorem Base.below {w0 w w' : World} {B : Nat} (h : Base w0 B w) (k : Below w.heap.size w w') : Base w0 B w' := ⟨h.step, bel2 h.bel k, h.low⟩
theorem Base.chg {w0 w w' : World} {B : Nat} (h : Base w0 B w) (k : Chg (One B) w w') : Base w0 B w' :=
  ⟨h.step, k.below h.bel h.bel.size fun i hi e => by have e : i = B := e; have := h.low; omega, h.low⟩
section
variable (n B : Nat) (m : Mem) (i : Int) (v : Value) (os : List Opt.Op) (d x : List UInt8) (w w0 : World) (h : Rg B w m) (hf : m.Fit) (hr : ReadsO w v os) (hB : B < n) (hn : n ≤ w.heap.size) (ST : Base w0 B w)
set_option maxHeartbeats 3200000
include h hf hr hB hn ST in
/-- A nak or a reject: of the last request, or of another. -/
theorem receive_nak (c : Int) (hc : c = 3 ∨ c = 4) (hl : os.length ≤ 1000000) (hd : ∀ o ∈ os, o.2.length ≤ 253) :
    Calls Tryz.prog 41 #[.pointer (some ⟨B, 0, none⟩), .agg (pcs (c, i, v, d)).toArray, .string ⟨x.toArray⟩] w
      (TakePost n B w (if m.sent = true ∧ m.sid = i then Ng.mrun { m with own := (Pol.learn Pl.nm m.own c os).1 } 9 [] else (m, [], 0))) := by
  have hlr := Pol.learn_learns c hc m.own os hf.may
  have hfit : Ng.Mem.Fit { m with own := (Pol.learn Pl.nm m.own c os).1 } := ⟨hf.st, hf.tries, hf.left, hf.id, by rw [hlr]; exact Pol.may_learns c hc os m.own hf.may, hf.oth⟩
  obtain ⟨l, hle⟩ : ∃ l, l = (Pol.learn Pl.nm m.own c os).1 := ⟨_, rfl⟩
  have hj : Pol.learn Pl.nm m.own c os = (l, 0) := by rw [hle, hlr]
  rw [← hle] at hfit ⊢
  obtain ⟨w1, hw1⟩ : ∃ w1, w1 = w.alloc (.cells (pcs (c, i, v, d)).toArray 36) := ⟨_, rfl⟩
  have BX : Hid (Bx w w1 (c, i, v, d)) := Lib.hid (hw1 ▸ bx_new w (c, i, v, d))
  have R1 := Lib.hid (h.below BX.out.bel)
  have HR1 := Lib.hid (hr.below BX.out.bel)
  have HH := Lib.hid (has_any m i w1.drew)
  have HL := Lib.hid fun W (h : Rg B W m) (hr : ReadsO W v os) => learn_at B m c i v os d W h hr (by omega) (fun o ho => by have := hd o ho; omega) l hj
  have HC : Hid (∀ W, Chg (One B) w W → Rg B W { m with own := l } → Calls Tryz.prog 34 #[.pointer (some ⟨B, 0, none⟩), .int .i64 9, .slice none 0 0] W (TakePost n B w (Ng.mrun { m with own := l } 9 []))) := Lib.hid fun W k hW => by
    refine (come_any n B B { m with own := l } 9 _ [] W hW hfit (Ans.nil _ _ _) (.inl ⟨rfl, rfl⟩) hB (Nat.le_trans hn k.size) hW.lt Small.nil (by decide) (ST.chg k).ok).mono ?_
    rintro e w4 ⟨v4, rfl, hp, hr, hc⟩
    exact ⟨v4, rfl, hp, hr, two_base hc k (.inl rfl)⟩
  have k0 := BX.out.arr.cell 0 _ rfl
  have zA := BX.out.arr.lt
  have zB := R1.out.lt
  obtain ⟨pv, cv, _, _, ev0, _⟩ := hr.at
  subst ev0
  have SJ : Hid (∀ a, Below w1.heap.size w1 a → a.cell? ⟨w.heap.size, 1, none⟩ = some (.int .i64 i) ∧ a.cell? ⟨w.heap.size, 2, none⟩ = some (.slice pv os.length cv) ∧ a.cell? ⟨w.heap.size, 3, none⟩ = some (.string ⟨d.toArray⟩) ∧
      a.cell? ⟨B, 16, none⟩ = some (.bool m.sent) ∧ a.cell? ⟨B, 17, none⟩ = some (.int .i64 m.sid) ∧ a.cell? ⟨B, 18, none⟩ = some (.int .i64 m.link.mru) ∧ a.cell? ⟨B, 19, none⟩ = some (.int .i64 m.link.magic) ∧ a.cell? ⟨B, 20, none⟩ = some (.int .i64 m.link.mrru) ∧ a.cell? ⟨B, 21, none⟩ = some (.bool m.link.short) ∧ a.cell? ⟨B, 22, none⟩ = some (.string ⟨m.link.disc.toArray⟩) ∧ a.cell? ⟨B, 23, none⟩ = some (.int .i64 m.link.num)) :=
    Lib.hid fun a k => ⟨(BX.out.arr.below k).cell 1 _ rfl, (BX.out.arr.below k).cell 2 _ rfl, (BX.out.arr.below k).cell 3 _ rfl, Arr.cell (R1.out.below k) 16 _ rfl, Arr.cell (R1.out.below k) 17 _ rfl, Arr.cell (R1.out.below k) 18 _ rfl, Arr.cell (R1.out.below k) 19 _ rfl, Arr.cell (R1.out.below k) 20 _ rfl, Arr.cell (R1.out.below k) 21 _ rfl, Arr.cell (R1.out.below k) 22 _ rfl, Arr.cell (R1.out.below k) 23 _ rfl⟩
  obtain ⟨b, hb⟩ : ∃ b, b = (m.sent && m.sid == i) := ⟨_, rfl⟩
  have A1 : Hid (Calls Tryz.prog 63 #[.agg #[.bool m.sent, .int .i64 m.sid, .int .i64 m.link.mru, .int .i64 m.link.magic, .int .i64 m.link.mrru, .bool m.link.short, .string ⟨m.link.disc.toArray⟩, .int .i64 m.link.num], .int .i64 i] w1.drew fun e w' => e = .returned (.bool b) ∧ Below w1.heap.size w1 w') := Lib.hid (by
    refine HH.out.mono ?_
    rintro e w' ⟨rfl, k⟩
    exact ⟨by rw [hb], ⟨k.os, k.tape, k.output, k.size, k.block⟩⟩)
  have HQ : Hid (TakePost n B w (if m.sent = true ∧ m.sid = i then Ng.mrun { m with own := l } 9 [] else (m, [], 0)) = TakePost n B w (if b = true then Ng.mrun { m with own := l } 9 [] else (m, [], 0))) := Lib.hid (by
    have e : (m.sent = true ∧ m.sid = i) ↔ b = true := by rw [hb]; simp
    by_cases hq : b = true
    · rw [if_pos hq, if_pos (e.2 hq)]
    · rw [if_neg hq, if_neg (fun k => hq (e.1 k))])
  rw [HQ.out]
  obtain ⟨R, hR⟩ : ∃ R, R = Ng.mrun { m with own := l } 9 [] := ⟨_, rfl⟩
  rw [← hR] at HC ⊢
  have H0 := Lib.hid h
  clear h hf hfit hlr hle hj ST hR hb HH HQ
  rcases hc with rfl | rfl
  all_goals
    cases b
    · rw [if_neg (by decide)]
      go_enter Tryz.func41, Tryz.ntmps41
      go_upto_region 1 with (fail)
      rw [← hw1]
      clear hw1
      go_wp2_with fail
      go_region_held (fun a => a.cell? ⟨w.heap.size, 1, none⟩ = some (.int .i64 i) ∧ a.cell? ⟨w.heap.size, 2, none⟩ = some (.slice pv os.length cv) ∧ a.cell? ⟨w.heap.size, 3, none⟩ = some (.string ⟨d.toArray⟩) ∧
        a.cell? ⟨B, 16, none⟩ = some (.bool m.sent) ∧ a.cell? ⟨B, 17, none⟩ = some (.int .i64 m.sid) ∧ a.cell? ⟨B, 18, none⟩ = some (.int .i64 m.link.mru) ∧ a.cell? ⟨B, 19, none⟩ = some (.int .i64 m.link.magic) ∧ a.cell? ⟨B, 20, none⟩ = some (.int .i64 m.link.mrru) ∧ a.cell? ⟨B, 21, none⟩ = some (.bool m.link.short) ∧ a.cell? ⟨B, 22, none⟩ = some (.string ⟨m.link.disc.toArray⟩) ∧ a.cell? ⟨B, 23, none⟩ = some (.int .i64 m.link.num))
        (with_reducible (first | assumption | exact hS5 | exact SJ.out _ (Below.refl _ w1).drew))
        (first | (go_at_call 63; (refine A1.out.mono ?_); rintro e w5 ⟨rfl, hb5⟩; have hS5 := SJ.out w5 hb5; have B5 := Lib.hid hb5; clear hb5))
      go_wp2_with fail
      go_ret2
      exact ⟨_, rfl, Packs.nil _ _, H0.out.below (bel2 BX.out.bel B5.out), Chg.of_below (bel2 BX.out.bel B5.out)⟩
    · rw [if_pos rfl]
      go_enter Tryz.func41, Tryz.ntmps41
      go_upto_region 1 with (fail)
      rw [← hw1]
      clear hw1
      go_wp2_with fail
      go_region_held (fun a => a.cell? ⟨w.heap.size, 1, none⟩ = some (.int .i64 i) ∧ a.cell? ⟨w.heap.size, 2, none⟩ = some (.slice pv os.length cv) ∧ a.cell? ⟨w.heap.size, 3, none⟩ = some (.string ⟨d.toArray⟩) ∧
        a.cell? ⟨B, 16, none⟩ = some (.bool m.sent) ∧ a.cell? ⟨B, 17, none⟩ = some (.int .i64 m.sid) ∧ a.cell? ⟨B, 18, none⟩ = some (.int .i64 m.link.mru) ∧ a.cell? ⟨B, 19, none⟩ = some (.int .i64 m.link.magic) ∧ a.cell? ⟨B, 20, none⟩ = some (.int .i64 m.link.mrru) ∧ a.cell? ⟨B, 21, none⟩ = some (.bool m.link.short) ∧ a.cell? ⟨B, 22, none⟩ = some (.string ⟨m.link.disc.toArray⟩) ∧ a.cell? ⟨B, 23, none⟩ = some (.int .i64 m.link.num))
        (with_reducible (first | assumption | exact hS5 | exact SJ.out _ (Below.refl _ w1).drew))
        (first | (go_at_call 63; (refine A1.out.mono ?_); rintro e w5 ⟨rfl, hb5⟩; have hS5 := SJ.out w5 hb5; have B5 := Lib.hid hb5; have c5 := (BX.out.arr.below hb5).cell 0 _ rfl; have L5 := Lib.hid (HL.out w5 (R1.out.below hb5) (HR1.out.below hb5)); clear hb5))
      go_wp2_with (first
        | (go_at_call 64; (refine L5.out.mono ?_); rintro e w6 ⟨rfl, hr6, hc6⟩; have CC := Lib.hid (HC.out w6 (chg_below (bel2 BX.out.bel B5.out) hc6) hr6); clear hr6 hc6)
        | (go_at_call 34; (refine CC.out.mono ?_); rintro e w4 ⟨v4, rfl, hp, hr4, hc4⟩; have HP := Lib.hid hp; have HR := Lib.hid hr4; have HD := Lib.hid hc4; clear hp hr4 hc4))
      go_ret2
      exact ⟨_, rfl, HP.out, HR.out, HD.out⟩
include h hf hr hB hn ST in
/-- Any packet that layer 5 takes. -/
theorem receive_any (c : Int) (hc : Ctl.code (c, i, os, d) = 0) (hst : ¬(m.st = 0 ∨ m.st = 1)) :
    Calls Tryz.prog 41 #[.pointer (some ⟨B, 0, none⟩), .agg (pcs (c, i, v, d)).toArray, .string ⟨(Ctl.put (c, i, os, d)).toArray⟩] w (TakePost n B w (Ng.mtake m (c, i, os, d))) := by
  obtain ⟨hc1, _, hl, hk, hd, hdl⟩ := sound c i os d hc
  have e0 : ∀ r, r = (if c = 1 then Ng.mrun m (if (Pol.judge Pl.nm m.own os).1 = 0 then 6 else 7) [(Ng.verdict (Pol.judge Pl.nm m.own os).1, i, (Pol.judge Pl.nm m.own os).2.1, [])]
    else if c = 2 then (if m.sent = true ∧ m.sid = i ∧ (Pol.ask m.link).1 = os then Ng.mrun m 8 [] else (m, [], 0))
    else if c = 3 ∨ c = 4 then (if m.sent = true ∧ m.sid = i then Ng.mrun { m with own := (Pol.learn Pl.nm m.own c os).1 } 9 [] else (m, [], 0))
    else if c = 5 then Ng.mrun m 10 [(6, i, [], [])]
    else if c = 6 then Ng.mrun m 11 []
    else if c = 7 ∨ c = 8 then Ng.mrun m 13 []
    else if c = 9 then Ng.mrun m 15 [(10, i, [], d)]
    else if c = 10 ∨ c = 11 then Ng.mrun m 15 []
    else Ng.mrun m 12 [(7, 0, [], (Ctl.put (c, i, os, d)).take 64)]) → Ng.mtake m (c, i, os, d) = r := by
    rintro r rfl
    unfold Ng.mtake
    rw [if_neg (by omega), if_neg hst]
  by_cases h1 : c = 1
  · subst h1
    rw [e0 _ rfl, if_pos rfl]
    exact receive_req n B m i v os d _ w h hf hr hB hn ST.ok hl ⟨hk, hd⟩
  by_cases h2 : c = 2
  · subst h2
    rw [e0 _ rfl, if_neg h1, if_pos rfl]
    exact receive_ack n B m i v os d _ w h hf hr hB hn ST.ok hl
  by_cases h3 : c = 3 ∨ c = 4
  · rw [e0 _ rfl, if_neg h1, if_neg h2, if_pos h3]
    exact receive_nak n B m i v os d _ w w0 h hf hr hB hn ST c h3 hl hd
  by_cases h5 : c = 5
  · subst h5
    rw [e0 _ rfl, if_neg h1, if_neg h2, if_neg h3, if_pos rfl]
    exact receive_term n B m i v d _ w h hf hB hn ST.ok
  by_cases h6 : c = 6
  · subst h6
    rw [e0 _ rfl, if_neg h1, if_neg h2, if_neg h3, if_neg h5, if_pos rfl]
    exact receive_bare n B m i v d _ w h hf hB hn ST.ok 6 11 (by decide)
  by_cases h7 : c = 7 ∨ c = 8
  · rw [e0 _ rfl, if_neg h1, if_neg h2, if_neg h3, if_neg h5, if_neg h6, if_pos h7]
    exact receive_bare n B m i v d _ w h hf hB hn ST.ok c 13 (by rcases h7 with rfl | rfl <;> decide)
  by_cases h9 : c = 9
  · subst h9
    rw [e0 _ rfl, if_neg h1, if_neg h2, if_neg h3, if_neg h5, if_neg h6, if_neg h7, if_pos rfl]
    exact receive_echo n B m i v d _ w h hf hB hn ST.ok hdl
  by_cases h10 : c = 10 ∨ c = 11
  · rw [e0 _ rfl, if_neg h1, if_neg h2, if_neg h3, if_neg h5, if_neg h6, if_neg h7, if_neg h9, if_pos h10]
    exact receive_bare n B m i v d _ w h hf hB hn ST.ok c 15 (by rcases h10 with rfl | rfl <;> decide)
  · rw [e0 _ rfl, if_neg h1, if_neg h2, if_neg h3, if_neg h5, if_neg h6, if_neg h7, if_neg h9, if_neg h10]
    exact receive_odd n B m i v d _ w h hf hB hn ST.ok c (by omega)
end
end Go.Proofs.YteabkmelnoefiaaGreatDoor.Ne
namespace Go.Proofs.YteabkmelnoefiaaGreatDoor.Ne
open Go.RowKit
set_option maxRecDepth 100000
set_option maxHeartbeats 3200000 in
/-- The contract of Take. -/
theorem take_any (B : Nat) (m : Mem) (c i : Int) (v : Value) (os : List Opt.Op) (d : List UInt8) (w w0 : World) (h : Rg B w m) (hf : m.Fit) (hr : ReadsO w v os) (ST : Base w0 B w) (hl : os.length ≤ 4611686018427387904) (hd : d.length ≤ 4611686018427387904) :
    Calls Tryz.prog 21 #[.pointer (some ⟨B, 0, none⟩), .agg (pcs (c, i, v, d)).toArray] w (TakePost w.heap.size B w (Ng.mtake m (c, i, os, d))) := by
  obtain ⟨w1, hw1⟩ : ∃ w1, w1 = w.alloc (.cells (pcs (c, i, v, d)).toArray 36) := ⟨_, rfl⟩
  have BX : Hid (Bx w w1 (c, i, v, d)) := Lib.hid (hw1 ▸ bx_new w (c, i, v, d))
  have hlt := h.lt
  have R1 := Lib.hid (h.below BX.out.bel)
  have PT := Lib.hid (C.cput_any c i v os d w1 (hr.below BX.out.bel) hl hd)
  have k0 := BX.out.arr.cell 0 _ rfl
  have k1 := BX.out.arr.cell 1 _ rfl
  have k2 := BX.out.arr.cell 2 _ rfl
  have k3 := BX.out.arr.cell 3 _ rfl
  have zA := BX.out.arr.lt
  obtain ⟨pv, cv, _, _, ev0, _⟩ := hr.at
  have hr0 := hr
  subst ev0
  obtain ⟨E, hE⟩ : ∃ E, E = Ctl.code (c, i, os, d) := ⟨_, rfl⟩
  obtain ⟨T, hT⟩ : ∃ T, T = Ctl.put (c, i, os, d) := ⟨_, rfl⟩
  rw [← hE, ← hT] at PT
  by_cases hc : E = 0
  · have q : (E != 0) = false := by simpa using hc
    by_cases hst : m.st = 0 ∨ m.st = 1
    · have er : Ng.mtake m (c, i, os, d) = (m, [], 1501) := by unfold Ng.mtake; rw [if_neg (by omega), if_pos hst]
      rw [er]
      have DN : Hid (∀ W, Rg B W m → Calls Tryz.prog 40 #[.pointer (some ⟨B, 0, none⟩)] W fun e w' => e = .returned (.bool true) ∧ W = w') := Lib.hid fun W hW => by
        refine (isDown_any B m W hW).mono ?_
        rintro e w' ⟨rfl, h2⟩
        exact ⟨by rw [show (m.st == 0 || m.st == 1) = true by simpa using hst], h2⟩
      clear h hf hr hr0 ST hE hT hc hst er
      go_enter Tryz.func21, Tryz.ntmps21
      go_upto_region 1 with (fail)
      rw [← hw1]
      clear hw1
      go_wp2_with (first
        | (go_at_call 39; (refine PT.out.mono ?_); rintro e v1 ⟨rfl, hb⟩; have B1 := Lib.hid (bel2 BX.out.bel hb); have R2 := Lib.hid (R1.out.below hb); clear hb)
        | (go_at_call 40; (refine (DN.out _ R2.out).mono ?_); rintro e v2 ⟨rfl, rfl⟩))
      go_ret2
      exact ⟨_, rfl, Packs.nil _ _, R2.out, Chg.of_below B1.out⟩
    · have DN : Hid (∀ W, Rg B W m → Calls Tryz.prog 40 #[.pointer (some ⟨B, 0, none⟩)] W fun e w' => e = .returned (.bool false) ∧ W = w') := Lib.hid fun W hW => by
        refine (isDown_any B m W hW).mono ?_
        rintro e w' ⟨rfl, h2⟩
        exact ⟨by rw [show (m.st == 0 || m.st == 1) = false by simpa using hst], h2⟩
      have RC : Hid (∀ W, Below w.heap.size w W → Calls Tryz.prog 41 #[.pointer (some ⟨B, 0, none⟩), .agg (pcs (c, i, .slice pv os.length cv, d)).toArray, .string ⟨T.toArray⟩] W (TakePost w.heap.size B w (Ng.mtake m (c, i, os, d)))) := Lib.hid fun W hb => by
        rw [hT]
        refine (receive_any w.heap.size B m i _ os d W w0 (h.below hb) hf (hr0.below hb) hlt hb.size (ST.below hb) c (by omega) hst).mono ?_
        exact fun e w' k => post_base hb k
      obtain ⟨R, hR⟩ : ∃ R, R = Ng.mtake m (c, i, os, d) := ⟨_, rfl⟩
      rw [← hR] at RC ⊢
      clear h hf hr hr0 ST hE hT hc hst hR
      go_enter Tryz.func21, Tryz.ntmps21
      go_upto_region 1 with (fail)
      rw [← hw1]
      clear hw1
      go_wp2_with (first
        | (go_at_call 39; (refine PT.out.mono ?_); rintro e v1 ⟨rfl, hb⟩; have B1 := Lib.hid (bel2 BX.out.bel hb); have R2 := Lib.hid (R1.out.below hb); have j0 := (BX.out.arr.below hb).cell 0 _ rfl; have j1 := (BX.out.arr.below hb).cell 1 _ rfl; have j2 := (BX.out.arr.below hb).cell 2 _ rfl; have j3 := (BX.out.arr.below hb).cell 3 _ rfl; have zJ := (BX.out.arr.below hb).lt; clear hb)
        | (go_at_call 40; (refine (DN.out _ R2.out).mono ?_); rintro e v2 ⟨rfl, rfl⟩)
        | (go_at_call 41; (refine (RC.out _ B1.out).mono ?_); rintro e w4 ⟨v4, rfl, hp, hr4, hc4⟩; have HP := Lib.hid hp; have HR := Lib.hid hr4; have HD := Lib.hid hc4; clear hp hr4 hc4))
      go_ret2
      exact ⟨_, rfl, HP.out, HR.out, HD.out⟩
  · have q : (E != 0) = true := by simpa using hc
    have er : Ng.mtake m (c, i, os, d) = (m, [], 1500) := by unfold Ng.mtake; rw [if_pos (by omega)]
    rw [er]
    clear h hf hr hr0 ST hE hT hc er
    go_enter Tryz.func21, Tryz.ntmps21
    go_upto_region 1 with (fail)
    rw [← hw1]
    clear hw1
    go_wp2_with (go_at_call 39; (refine PT.out.mono ?_); rintro e v1 ⟨rfl, hb⟩; have B1 := Lib.hid (bel2 BX.out.bel hb); have R2 := Lib.hid (R1.out.below hb); clear hb)
    go_ret2
    exact ⟨_, rfl, Packs.nil _ _, R2.out, Chg.of_below B1.out⟩
theorem alone_any (e : Int) (w : World) : Calls Tryz.prog 32 #[.int .i64 e] w fun x w' => x = .returned (.bool (Ng.isEvent e)) ∧ w = w' := by
  by_cases he : Ng.isEvent e = true
  · rw [he]
    have hb : 0 ≤ e ∧ e ≤ 4 := by
      unfold Ng.isEvent at he
      simpa using he
    have : e = 0 ∨ e = 1 ∨ e = 2 ∨ e = 3 ∨ e = 4 := by omega
    clear he hb
    rcases this with rfl | rfl | rfl | rfl | rfl
    all_goals
      go_enter Tryz.func32, Tryz.ntmps32
      go_wp2_with fail
      go_ret
      exact ⟨rfl, rfl⟩
  · have hb : ¬ (0 ≤ e ∧ e ≤ 4) := by
      unfold Ng.isEvent at he
      simpa using he
    rw [show Ng.isEvent e = false by simpa using he]
    have q0 : (e == 0) = false := by rw [beq_eq_false_iff_ne]; omega
    have q1 : (e == 1) = false := by rw [beq_eq_false_iff_ne]; omega
    have q2 : (e == 2) = false := by rw [beq_eq_false_iff_ne]; omega
    have q3 : (e == 3) = false := by rw [beq_eq_false_iff_ne]; omega
    have q4 : (e == 4) = false := by rw [beq_eq_false_iff_ne]; omega
    clear he hb
    go_enter Tryz.func32, Tryz.ntmps32
    go_wp2_with fail
    go_ret
    exact ⟨rfl, rfl⟩
set_option maxHeartbeats 3200000 in
/-- The contract of Do. -/
theorem do_any (B : Nat) (m : Mem) (ev : Int) (w w0 : World) (h : Rg B w m) (hf : m.Fit) (ST : Base w0 B w) :
    Calls Tryz.prog 16 #[.pointer (some ⟨B, 0, none⟩), .int .i64 ev] w (TakePost w.heap.size B w (Ng.mdo m ev)) := by
  have AL := Lib.hid (alone_any ev w)
  have IS := Lib.hid (isSpent_any B m w h)
  have hlt := h.lt
  by_cases he : Ng.isEvent ev = true
  · have hb : 0 ≤ ev ∧ ev ≤ 4 := by
      unfold Ng.isEvent at he
      simpa using he
    have hin : 0 ≤ (if ev = 4 ∧ m.left = 0 then 5 else ev) ∧ (if ev = 4 ∧ m.left = 0 then 5 else ev) ≤ 15 := by split <;> omega
    have er : Ng.mdo m ev = Ng.mrun m (if ev = 4 ∧ m.left = 0 then 5 else ev) [] := by unfold Ng.mdo; rw [if_pos he]
    rw [er]
    rw [he] at AL
    have HC : Hid (Calls Tryz.prog 34 #[.pointer (some ⟨B, 0, none⟩), .int .i64 (if ev = 4 ∧ m.left = 0 then 5 else ev), .slice none 0 0] w (TakePost w.heap.size B w (Ng.mrun m (if ev = 4 ∧ m.left = 0 then 5 else ev) []))) := Lib.hid (by
      refine (come_any w.heap.size B B m _ _ [] w h hf (Ans.nil _ _ _) (.inl ⟨rfl, rfl⟩) hlt (Nat.le_refl _) hlt Small.nil hin ST.ok).mono ?_
      rintro e w4 ⟨v4, rfl, hp, hr, hc⟩
      exact ⟨v4, rfl, hp, hr, two_base hc (Chg.refl _ _) (.inl rfl)⟩)
    obtain ⟨x, hx⟩ : ∃ x : Int, x = if ev = 4 ∧ m.left = 0 then 5 else ev := ⟨_, rfl⟩
    rw [← hx] at HC ⊢
    obtain ⟨R, hR⟩ : ∃ R, R = Ng.mrun m x [] := ⟨_, rfl⟩
    rw [← hR] at HC ⊢
    clear er hin hR h hf ST he
    by_cases h4 : ev = 4
    · subst h4
      obtain ⟨z, hz⟩ : ∃ z, z = (m.left == 0) := ⟨_, rfl⟩
      rw [← hz] at IS
      cases z
      · have h0 : m.left ≠ 0 := by simpa using hz.symm
        rw [if_neg (fun k => h0 k.2)] at hx
        subst hx
        clear hz h0
        go_enter Tryz.func16, Tryz.ntmps16
        go_wp2_with (first | (go_at_call 32; (refine AL.out.mono ?_); rintro e v1 ⟨rfl, rfl⟩) | (go_at_call 33; (refine IS.out.mono ?_); rintro e v1 ⟨rfl, rfl⟩) | (go_at_call 34; (refine HC.out.mono ?_); rintro e w4 ⟨v4, rfl, hp, hr4, hc4⟩; have HP := Lib.hid hp; have HR := Lib.hid hr4; have HD := Lib.hid hc4; clear hp hr4 hc4))
        go_ret2
        exact ⟨_, rfl, HP.out, HR.out, HD.out⟩
      · have h0 : m.left = 0 := by simpa using hz.symm
        rw [if_pos ⟨rfl, h0⟩] at hx
        subst hx
        clear hz h0
        go_enter Tryz.func16, Tryz.ntmps16
        go_wp2_with (first | (go_at_call 32; (refine AL.out.mono ?_); rintro e v1 ⟨rfl, rfl⟩) | (go_at_call 33; (refine IS.out.mono ?_); rintro e v1 ⟨rfl, rfl⟩) | (go_at_call 34; (refine HC.out.mono ?_); rintro e w4 ⟨v4, rfl, hp, hr4, hc4⟩; have HP := Lib.hid hp; have HR := Lib.hid hr4; have HD := Lib.hid hc4; clear hp hr4 hc4))
        go_ret2
        exact ⟨_, rfl, HP.out, HR.out, HD.out⟩
    · rw [if_neg (fun k => h4 k.1)] at hx
      subst hx
      have q4 : (x == 4) = false := by simpa using h4
      clear h4 hb
      go_enter Tryz.func16, Tryz.ntmps16
      go_wp2_with (first | (go_at_call 32; (refine AL.out.mono ?_); rintro e v1 ⟨rfl, rfl⟩) | (go_at_call 34; (refine HC.out.mono ?_); rintro e w4 ⟨v4, rfl, hp, hr4, hc4⟩; have HP := Lib.hid hp; have HR := Lib.hid hr4; have HD := Lib.hid hc4; clear hp hr4 hc4))
      go_ret2
      exact ⟨_, rfl, HP.out, HR.out, HD.out⟩
  · have er : Ng.mdo m ev = (m, [], 1500) := by unfold Ng.mdo; rw [if_neg he]
    have hq : Ng.isEvent ev = false := by simpa using he
    rw [er]
    rw [hq] at AL
    have H0 := Lib.hid h
    clear er he hq h hf ST IS
    go_enter Tryz.func16, Tryz.ntmps16
    go_wp2_with (go_at_call 32; (refine AL.out.mono ?_); rintro e v1 ⟨rfl, rfl⟩)
    go_ret2
    exact ⟨_, rfl, Packs.nil _ _, H0.out, Chg.refl _ _⟩
end Go.Proofs.YteabkmelnoefiaaGreatDoor.Ne
namespace Go.Proofs.YteabkmelnoefiaaGreatDoor.Ne
open Go.RowKit
set_option maxRecDepth 100000
theorem ask_code (l : Pol.Lk) : (Pol.ask l).2 = if Pol.may l = true then 0 else 1400 := by
  unfold Pol.ask
  split <;> rfl
set_option maxHeartbeats 3200000 in
theorem new_bad (l : Pol.Lk) (t : Int) (w : World) (h : Ng.fine l t = false) :
    Calls Tryz.prog 12 #[.agg (Pl.lcs l).toArray, .int .i64 t] w fun e w' => e = .returned (.tuple #[.pointer none, .int .i64 1500]) ∧ Below w.heap.size w w' := by
  obtain ⟨w1, hw1⟩ : ∃ w1, w1 = w.alloc (.cells (Pl.lcs l).toArray 23) := ⟨_, rfl⟩
  have HB : Hid (Below w.heap.size w w1) := Lib.hid (hw1 ▸ (Below.refl w.heap.size w).alloc (Nat.le_refl _) _)
  have L1 : Hid (Pl.Lnk w.heap.size w1 l) := Lib.hid (hw1 ▸ Pl.Lnk.new w l)
  have AK := Lib.hid (Pr.ask_any l w1)
  have hk := ask_code l
  obtain ⟨K, hK⟩ : ∃ K, K = Pol.ask l := ⟨_, rfl⟩
  rw [← hK] at AK hk
  clear hK
  obtain ⟨K1, E⟩ := K
  dsimp only at hk AK
  have hw : Pol.may l = false ∨ (Pol.may l = true ∧ t < 1) ∨ (Pol.may l = true ∧ ¬ t < 1 ∧ 10 < t) := by
    unfold Ng.fine at h
    cases hm : Pol.may l
    · exact .inl rfl
    · rw [hm] at h
      simp only [Bool.true_and, Bool.and_eq_false_iff, decide_eq_false_iff_not] at h
      by_cases h1 : t < 1
      · exact .inr (.inl ⟨rfl, h1⟩)
      · exact .inr (.inr ⟨rfl, h1, by omega⟩)
  rcases hw with hm | ⟨hm, h1⟩ | ⟨hm, h1, h2⟩
  · rw [hm] at hk
    have q : (E != 0) = true := by rw [hk]; rfl
    clear hk hm h
    go_enter Tryz.func12, Tryz.ntmps12
    go_upto_region 1 with (fail)
    rw [← hw1]
    clear hw1
    go_wp2_with (first | (refine Pl.step_link rfl _ rfl w.heap.size l rfl L1.out ?_) | (go_at_call 30; (refine AK.out.mono ?_); rintro e v1 ⟨u, rfl, _, hb⟩; have B1 := Lib.hid (bel2 HB.out hb); clear hb))
    go_ret2
    exact ⟨rfl, B1.out⟩
  · rw [hm] at hk
    have q : (E != 0) = false := by rw [hk]; rfl
    clear hk hm h
    go_enter Tryz.func12, Tryz.ntmps12
    go_upto_region 1 with (fail)
    rw [← hw1]
    clear hw1
    go_wp2_with (first | (refine Pl.step_link rfl _ rfl w.heap.size l rfl L1.out ?_) | (go_at_call 30; (refine AK.out.mono ?_); rintro e v1 ⟨u, rfl, _, hb⟩; have B1 := Lib.hid (bel2 HB.out hb); clear hb))
    go_ret2
    exact ⟨rfl, B1.out⟩
  · rw [hm] at hk
    have q : (E != 0) = false := by rw [hk]; rfl
    clear hk hm h
    go_enter Tryz.func12, Tryz.ntmps12
    go_upto_region 1 with (fail)
    rw [← hw1]
    clear hw1
    go_wp2_with (first | (refine Pl.step_link rfl _ rfl w.heap.size l rfl L1.out ?_) | (go_at_call 30; (refine AK.out.mono ?_); rintro e v1 ⟨u, rfl, _, hb⟩; have B1 := Lib.hid (bel2 HB.out hb); clear hb))
    go_ret2
    exact ⟨rfl, B1.out⟩
set_option maxHeartbeats 3200000 in
theorem new_good (l : Pol.Lk) (t : Int) (w : World) (h : Ng.fine l t = true) :
    Calls Tryz.prog 12 #[.agg (Pl.lcs l).toArray, .int .i64 t] w fun e w' => ∃ B, e = .returned (.tuple #[.pointer (some ⟨B, 0, none⟩), .int .i64 0]) ∧ w.heap.size ≤ B ∧ Rg B w' (Ng.born l t) ∧ Below w.heap.size w w' := by
  obtain ⟨w1, hw1⟩ : ∃ w1, w1 = w.alloc (.cells (Pl.lcs l).toArray 23) := ⟨_, rfl⟩
  have HB : Hid (Below w.heap.size w w1) := Lib.hid (hw1 ▸ (Below.refl w.heap.size w).alloc (Nat.le_refl _) _)
  have L1 : Hid (Pl.Lnk w.heap.size w1 l) := Lib.hid (hw1 ▸ Pl.Lnk.new w l)
  have AK := Lib.hid (Pr.ask_any l w1)
  have hk := ask_code l
  obtain ⟨K, hK⟩ : ∃ K, K = Pol.ask l := ⟨_, rfl⟩
  rw [← hK] at AK hk
  clear hK
  obtain ⟨K1, E⟩ := K
  dsimp only at hk AK
  unfold Ng.fine at h
  simp only [Bool.and_eq_true, decide_eq_true_eq] at h
  obtain ⟨⟨hm, h1⟩, h2⟩ := h
  have hd : l.disc.length ≤ 281474976710656 := by
    have := ((Pol.may_iff l).1 hm).2.2.2.2.1
    omega
  have CO : Hid (∀ W, Calls Tryz.prog 31 #[.agg (Pl.lcs l).toArray] W fun e w' => e = .returned (.agg #[.int .i64 l.mru, .int .i64 l.magic, .int .i64 l.mrru, .bool l.short, .string ⟨l.disc.toArray⟩, .int .i64 l.num]) ∧ Below W.heap.size W w') := Lib.hid fun W => copyOf_any l hd W
  rw [hm, if_pos rfl] at hk
  subst hk
  clear hm hd
  go_enter Tryz.func12, Tryz.ntmps12
  go_upto_region 1 with (fail)
  rw [← hw1]
  clear hw1
  go_wp2_with (first
    | (refine Pl.step_link rfl _ rfl w.heap.size l rfl L1.out ?_)
    | (go_at_call 30; (refine AK.out.mono ?_); rintro e v1 ⟨u, rfl, _, hb⟩; have B1 := Lib.hid (bel2 HB.out hb); have L2 := Lib.hid (L1.out.below hb); clear hb)
    | (refine Pl.step_link rfl _ rfl w.heap.size l rfl L2.out ?_)
    | (go_at_call 31; (refine (CO.out _).mono ?_); rintro e v2 ⟨rfl, hb⟩; have B2 := Lib.hid (bel2 B1.out hb); clear hb))
  go_ret2
  exact ⟨_, rfl, B2.out.size, Arr.new v2 (mcs (Ng.born l t)) _, B2.out.alloc B2.out.size _⟩
/-- Block 'B' holds a side that is, to the document, 'g'; it was made behind 'w0'. -/
structure Rep (w0 : World) (B : Nat) (W : World) (g : Ng.Side) : Prop where
  out : ∃ m : Mem, Rg B W m ∧ m.Fit ∧ m.side = g
  base : Base w0 B W
theorem Rep.lt {w0 : World} {B : Nat} {W : World} {g : Ng.Side} (h : Rep w0 B W g) : B < W.heap.size := by
  obtain ⟨m, h1, _⟩ := h.out
  exact h1.lt
theorem Rep.chg {w0 : World} {B : Nat} {S : Nat → Prop} {W W' : World} {g : Ng.Side} (h : Rep w0 B W g) (k : Chg S W W') (hB : ¬ S B) (hS : ∀ i, i < w0.heap.size → ¬ S i) : Rep w0 B W' g := by
  obtain ⟨m, h1, h2, h3⟩ := h.out
  exact ⟨⟨m, h1.chg k hB, h2, h3⟩, h.base.step, k.below h.base.bel h.base.bel.size hS, h.base.low⟩
theorem Rep.below {w0 : World} {B : Nat} {W W' : World} {g : Ng.Side} (h : Rep w0 B W g) (k : Below W.heap.size W W') : Rep w0 B W' g := h.chg (S := fun _ => False) (Chg.of_below k) id fun _ _ => id
/-- Another side is called. -/
theorem Rep.aside {w0 : World} {B B2 : Nat} {W W' : World} {g : Ng.Side} (h : Rep w0 B W g) (k : Chg (One B2) W W') (hB : B ≠ B2) (h2 : w0.heap.size ≤ B2) : Rep w0 B W' g :=
  h.chg k (fun e => hB e) fun i hi e => by have e : i = B2 := e; omega
/-- What a call to a side leaves. -/
structure SidePost (w0 : World) (B : Nat) (W W' : World) (v : Value) (r : Ng.Side × List Ng.Pk × Int) : Prop where
  packs : Packs W.heap.size W' v r.2.1
  rep : Rep w0 B W' r.1
  chg : Chg (One B) W W'
theorem side_do {w0 : World} {B : Nat} {W : World} {g : Ng.Side} (h : Rep w0 B W g) (ev : Int) : Calls Tryz.prog 16 #[.pointer (some ⟨B, 0, none⟩), .int .i64 ev] W fun e W' => ∃ v, e = .returned (.tuple #[v, .int .i64 (Ng.step g ev).2.2]) ∧ SidePost w0 B W W' v (Ng.step g ev) := by
  obtain ⟨m, h1, h2, rfl⟩ := h.out
  obtain ⟨e1, e2⟩ := Ng.mdo_eq m ev h2
  refine (do_any B m ev W w0 h1 h2 h.base).mono ?_
  rintro e W' ⟨v, rfl, hp, hr, hc⟩
  refine ⟨v, by rw [e2], ⟨by rw [← e2]; exact hp, ⟨⟨_, hr, Ng.mdo_fit m ev h2, e1⟩, h.base.chg hc⟩, hc⟩⟩
theorem side_take {w0 : World} {B : Nat} {W : World} {g : Ng.Side} (h : Rep w0 B W g) (c i : Int) (v : Value) (os : List Opt.Op) (d : List UInt8) (hr : ReadsO W v os) (hl : os.length ≤ 4611686018427387904) (hd : d.length ≤ 4611686018427387904) :
    Calls Tryz.prog 21 #[.pointer (some ⟨B, 0, none⟩), .agg #[.int .i64 c, .int .i64 i, v, .string ⟨d.toArray⟩]] W fun e W' => ∃ v, e = .returned (.tuple #[v, .int .i64 (Ng.take g (c, i, os, d)).2.2]) ∧ SidePost w0 B W W' v (Ng.take g (c, i, os, d)) := by
  obtain ⟨m, h1, h2, rfl⟩ := h.out
  obtain ⟨e1, e2⟩ := Ng.mtake_eq m (c, i, os, d) h2
  refine (take_any B m c i v os d W w0 h1 h2 hr h.base hl hd).mono ?_
  rintro e W' ⟨v, rfl, hp, hr, hc⟩
  refine ⟨v, by rw [e2], ⟨by rw [← e2]; exact hp, ⟨⟨_, hr, Ng.mtake_fit m _ h2, e1⟩, h.base.chg hc⟩, hc⟩⟩
theorem side_new {w0 W : World} (ST : U.StepOk w0) (hb : Below w0.heap.size w0 W) (l : Pol.Lk) (t : Int) (h : Ng.fine l t = true) :
    Calls Tryz.prog 12 #[Pl.lv l, .int .i64 t] W fun e W' => ∃ B, e = .returned (.tuple #[.pointer (some ⟨B, 0, none⟩), .int .i64 0]) ∧ W.heap.size ≤ B ∧ Rep w0 B W' (Ng.fresh l t) ∧ Below W.heap.size W W' := by
  refine (new_good l t W h).mono ?_
  rintro e W' ⟨B, rfl, hB, hr, k⟩
  exact ⟨B, rfl, hB, ⟨⟨_, hr, Ng.born_fit l t h, rfl⟩, ST, bel2 hb k, Nat.le_trans hb.size hB⟩, k⟩
theorem side_none {W : World} (l : Pol.Lk) (t : Int) (h : Ng.fine l t = false) :
    Calls Tryz.prog 12 #[Pl.lv l, .int .i64 t] W fun e W' => e = .returned (.tuple #[.pointer none, .int .i64 1500]) ∧ Below W.heap.size W W' := new_bad l t W h
theorem side_state {w0 : World} {B : Nat} {W : World} {g : Ng.Side} (h : Rep w0 B W g) : Calls Tryz.prog 24 #[.pointer (some ⟨B, 0, none⟩)] W fun e W' => e = .returned (.int .i64 g.st) ∧ W = W' := by
  obtain ⟨m, h1, h2, rfl⟩ := h.out
  exact state_any B m W h1
theorem side_left {w0 : World} {B : Nat} {W : World} {g : Ng.Side} (h : Rep w0 B W g) : Calls Tryz.prog 27 #[.pointer (some ⟨B, 0, none⟩)] W fun e W' => e = .returned (.int .i64 g.left) ∧ W = W' := by
  obtain ⟨m, h1, h2, rfl⟩ := h.out
  exact left_any B m W h1
theorem side_own {w0 : World} {B : Nat} {W : World} {g : Ng.Side} (h : Rep w0 B W g) : Calls Tryz.prog 25 #[.pointer (some ⟨B, 0, none⟩)] W fun e W' => e = .returned (Pl.lv g.own) ∧ Below W.heap.size W W' := by
  obtain ⟨m, h1, h2, rfl⟩ := h.out
  have := ((Pol.may_iff m.own).1 h2.may).2.2.2.2.1
  exact own_any B m W h1 (by omega)
theorem side_other {w0 : World} {B : Nat} {W : World} {g : Ng.Side} (h : Rep w0 B W g) : Calls Tryz.prog 26 #[.pointer (some ⟨B, 0, none⟩)] W fun e W' => e = .returned (Pl.lv g.other) ∧ Below W.heap.size W W' := by
  obtain ⟨m, h1, h2, rfl⟩ := h.out
  have := h2.oth
  exact other_any B m W h1 (by omega)
end Go.Proofs.YteabkmelnoefiaaGreatDoor.Ne
namespace Go.Proofs.YteabkmelnoefiaaGreatDoor.Ne
open Go.RowKit
set_option maxRecDepth 100000
theorem packs_aside {n B : Nat} {W W' : World} {v : Value} {ps : List Ctl.Pk} (h : Packs n W v ps) (k : Chg (One B) W W') (hB : B < n) : Packs n W' v ps := h.chg k fun g hg e => by have e : g = B := e; omega
/-- One packet alone: where it lies. -/
theorem packs_one {n : Nat} {W : World} {v : Value} {p : Ctl.Pk} (h : Packs n W v [p]) : ∃ g cap u, v = .slice (some ⟨g, 0, none⟩) 1 cap ∧ n ≤ g ∧ g < W.heap.size ∧
    W.cell? ⟨g, 0, none⟩ = some (.int .i64 p.1) ∧ W.cell? ⟨g, 1, none⟩ = some (.int .i64 p.2.1) ∧ W.cell? ⟨g, 2, none⟩ = some u ∧ W.cell? ⟨g, 3, none⟩ = some (.string ⟨p.2.2.2.toArray⟩) ∧ Row n W u p.2.2.1 := by
  obtain ⟨g, cap, u, e, h1, h2, c0, c1, c2, c3, hr⟩ := h.at 0 (by simp)
  exact ⟨g, cap, u, e, h1, h2, c0, c1, c2, c3, hr⟩
theorem first_index (g cap : Nat) : ∀ W : World, (Instr.indexAt 39 (.slice (some ⟨g, 0, none⟩) 1 cap) (.int .i64 0)).run Tryz.prog W = .ok (.pointer (some ⟨g, 0, none⟩)) W := fun W => by simpa using pks_index g 0 1 cap 0 (by omega) W
/-- A call that returns a side's answer. -/
abbrev Answers (w0 : World) (B : Nat) (W : World) (r : Ng.Side × List Ng.Pk × Int) : Ending → World → Prop := fun e W' => ∃ v, e = .returned (.tuple #[v, .int .i64 r.2.2]) ∧ SidePost w0 B W W' v r
theorem aw1 : Ng.fine Ng.l1500 4 = true := by decide +kernel
theorem aw2 : Ng.step (Ng.fresh Ng.l1500 4) 2 = (Ng.s0, [], 0) := by kernel_rfl
theorem aw3 : Ng.step Ng.s0 0 = (Ng.s1, [(1, 1, [(1, [5, 220])], [])], 0) := by kernel_rfl
theorem aw4 : Ng.step Ng.s1 8 = (Ng.s1, [], 1500) := by kernel_rfl
theorem aw5 : Ng.step Ng.s1 0 = (Ng.s1, [], 1501) := by kernel_rfl
theorem aw6 : (Ng.take Ng.s1 (1, 9, [], [])).2 = ([(2, 9, [], [])], 0) ∧ (Ng.take Ng.s1 (1, 9, [], [])).1.st = 8 ∧ (Ng.take Ng.s1 (1, 9, [], [])).1.left = 3 := Ng.awake4
theorem aw7 : Ng.fine ⟨1, 0, 0, false, [], 0⟩ 4 = false := by decide +kernel
set_option maxHeartbeats 6400000 in
theorem awake_any (w : World) (ST : U.StepOk w) : Calls Tryz.prog 15 #[] w fun e w' => e = .returned (.bool true) ∧ Below w.heap.size w w' := by
  have N1 : Hid (Calls Tryz.prog 12 #[.agg #[.int .i64 1500, .int .i64 0, .int .i64 0, .bool false, .string { data := #[] }, .int .i64 0], .int .i64 4] w _) := Lib.hid (side_new ST (Below.refl _ _) Ng.l1500 4 aw1)
  have N2 : Hid (∀ W, Calls Tryz.prog 12 #[.agg #[.int .i64 1, .int .i64 0, .int .i64 0, .bool false, .string { data := #[] }, .int .i64 0], .int .i64 4] W _) := Lib.hid fun W => side_none (W := W) ⟨1, 0, 0, false, [], 0⟩ 4 aw7
  have D1 := Lib.hid fun B W (h : Rep w B W (Ng.fresh Ng.l1500 4)) => side_do h 2
  have D2 := Lib.hid fun B W (h : Rep w B W Ng.s0) => side_do h 0
  have D3 := Lib.hid fun B W (h : Rep w B W Ng.s1) => side_do h 8
  have D4 := Lib.hid fun B W (h : Rep w B W Ng.s1) => side_do h 0
  have D5 := Lib.hid fun B W (h : Rep w B W Ng.s1) => side_take h 1 9 (.slice none 0 0) [] [] (reads_nil W) (Nat.zero_le _) (Nat.zero_le _)
  have E6 := Lib.hid aw6
  rw [aw2] at D1
  rw [aw3] at D2
  rw [aw4] at D3
  rw [aw5] at D4
  generalize Ng.fresh Ng.l1500 4 = gf at *
  generalize Ng.s0 = g0 at *
  generalize Ng.s1 = g1 at *
  obtain ⟨R6, hR6⟩ : ∃ R, R = Ng.take g1 (1, 9, [], []) := ⟨_, rfl⟩
  rw [← hR6] at D5 E6
  clear hR6
  obtain ⟨g2, ps6, c6⟩ := R6
  obtain ⟨e61, e62, e63⟩ := E6.out
  obtain ⟨rfl, rfl⟩ := Prod.mk.inj e61
  dsimp only at e62 e63
  clear e61 E6 ST
  have NU := Lib.hid num_any
  go_enter Tryz.func15, Tryz.ntmps15
  go_wp2_with (first
    | (go_at_call 14; (refine (NU.out _ _).mono ?_); rintro e v1 ⟨rfl, rfl⟩)
    | (go_at_call 12; (with_reducible refine N1.out.mono ?_); rintro e w1 ⟨B, rfl, hB, hr, hb⟩; have R1 := Lib.hid hr; have B1 := Lib.hid hb; have HB := Lib.hid hB; have C1 := Lib.hid (D1.out _ _ hr); clear hr hb hB)
    | (go_at_call 16; (with_reducible refine C1.out.mono ?_); rintro e w2 ⟨v2, rfl, hs⟩; have R2 := Lib.hid hs.rep; have K2 : Hid (Below w.heap.size w w2) := Lib.hid hs.rep.base.bel; have C2 := Lib.hid (D2.out _ _ hs.rep); clear hs)
    | (go_at_call 16; (with_reducible refine C2.out.mono ?_); rintro e w3 ⟨v3, rfl, hs⟩; have P3 := Lib.hid hs.packs; have LT3 := Lib.hid R2.out.lt; have C3 := Lib.hid (D3.out _ _ hs.rep); have S3 := Lib.hid hs.chg; clear hs)
    | (go_at_call 16; (with_reducible refine C3.out.mono ?_); rintro e w4 ⟨v4, rfl, hs⟩; have P4 := Lib.hid (packs_aside P3.out hs.chg LT3.out); have C4 := Lib.hid (D4.out _ _ hs.rep); clear hs)
    | (go_at_call 16; (with_reducible refine C4.out.mono ?_); rintro e w5 ⟨v5, rfl, hs⟩; have P5 := Lib.hid (packs_aside P4.out hs.chg LT3.out); have C5 := Lib.hid (D5.out _ _ hs.rep); have LT5 := Lib.hid hs.rep.lt; clear hs)
    | (go_at_call 21; (with_reducible refine C5.out.mono ?_); rintro e w6 ⟨v6, rfl, hs⟩; have P6 := Lib.hid (packs_aside P5.out hs.chg LT3.out); have Q6 := Lib.hid hs.packs; have R6 := Lib.hid hs.rep; clear hs)
    | (go_at_call 12; (with_reducible refine (N2.out w6).mono ?_); rintro e w7 ⟨rfl, hb⟩; have R7 := Lib.hid (R6.out.below hb); obtain ⟨ga, ca, ua, ea, _, za, a0, a1, _⟩ := packs_one (P6.out.below hb); obtain ⟨gb, cb, ub, eb, _, zb, b0, b1, _⟩ := packs_one (Q6.out.below hb); subst ea; subst eb; have ia := first_index ga ca; have ib := first_index gb cb; have SS := Lib.hid (side_state R7.out); have SL := Lib.hid (side_left R7.out); have K7 : Hid (Below w.heap.size w w7) := Lib.hid R7.out.base.bel; rw [e62] at SS; rw [e63] at SL; clear hb)
    | (go_at_call 24; (refine SS.out.mono ?_); rintro e v1 ⟨rfl, rfl⟩)
    | (go_at_call 27; (refine SL.out.mono ?_); rintro e v1 ⟨rfl, rfl⟩))
  go_ret
  exact ⟨rfl, K7.out⟩
end Go.Proofs.YteabkmelnoefiaaGreatDoor.Ne
