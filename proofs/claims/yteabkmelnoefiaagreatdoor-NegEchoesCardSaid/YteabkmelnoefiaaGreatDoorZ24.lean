/-
  Stage 15: contracts of what is granted, of what is asked.
  Stage 15: contract of an action.
-/
import Derived.Test.YteabkmelnoefiaaGreatDoorZ23
import Derived.Test.YteabkmelnoefiaaGreatDoorZ19
import Derived.RegionTactic
import Derived.BigRegion
import Derived.StillTailTactics
namespace Go.Proofs.YteabkmelnoefiaaGreatDoor.Ne
open Go.RowKit
set_option maxRecDepth 100000
abbrev One (B : Nat) (k : Nat) : Prop := k = B
theorem one_two {B A : Nat} {w w' : World} (h : Chg (One B) w w') : Chg (Two B A) w w' := h.mono fun _ _ => .inl
theorem chg_below {S : Nat → Prop} {a b c : World} (h : Below a.heap.size a b) (k : Chg S b c) : Chg S a c := (Chg.of_below h).trans k
set_option maxHeartbeats 1600000 in
theorem grant_one (B A : Nat) (m : Mem) (c i : Int) (u : Value) (os : List Opt.Op) (d : List UInt8) (w : World) (h : Rg B w m) (hA : Arr A w (pcs (c, i, u, d))) (hr : ReadsO w u os) (hl : os.length ≤ 1000000) (hk : ∀ o ∈ os, 0 ≤ o.1 ∧ o.1 ≤ 255) (hd : ∀ o ∈ os, o.2.length ≤ 1000000) :
    Calls Tryz.prog 80 #[.pointer (some ⟨B, 0, none⟩), .slice (some ⟨A, 0, none⟩) 1 1] w (fun e w' => e = .returned (.tuple #[]) ∧ Rg B w' { m with other := (Pol.taken Pl.nm os).1 } ∧ Chg (One B) w w') := by
  have H := Lib.hid h
  have HR := Lib.hid hr
  have hlt := h.lt
  have hltA := hA.lt
  obtain ⟨p, cap, _, _, e0, _⟩ := hr.at
  subst e0
  have g0 := hA.cell 0 _ rfl
  have g1 := hA.cell 1 _ rfl
  have g2 := hA.cell 2 _ rfl
  have g3 := hA.cell 3 _ rfl
  have hix : ∀ W : World, (Instr.indexAt 39 (.slice (some ⟨A, 0, none⟩) 1 1) (.int .i64 0)).run Tryz.prog W = .ok (.pointer (some ⟨A, 0, none⟩)) W := fun W => by simpa using pks_index A 0 1 1 0 (by omega) W
  have TK := Lib.hid fun W hb => Pr.taken_any _ os W (hr.below hb) hl hk hd
  obtain ⟨L, hL⟩ : ∃ L, L = (Pol.taken Pl.nm os).1 := ⟨_, rfl⟩
  rw [← hL] at TK ⊢
  obtain ⟨E, hE⟩ : ∃ E, E = (Pol.taken Pl.nm os).2 := ⟨_, rfl⟩
  rw [← hE] at TK
  clear h hr hA hl hk hd hL hE
  go_enter Tryz.func80, Tryz.ntmps80
  go_wp2_with fail
  go_loopw [8] (fun i wr => (i = .int .i64 0 ∧ wr = w) ∨ (i = .int .i64 1 ∧ Rg B wr { m with other := L } ∧ Chg (One B) w wr)) (fun i _ => 1 - (intOf i).toNat)
  case atStart => exact .inl ⟨rfl, rfl⟩
  case round =>
    rcases hrel with ⟨rfl, rfl⟩ | ⟨rfl, h1, h2⟩
    · go_wp2_with (first | (go_at_call 96; (refine (TK.out _ ((Below.refl _ wr).alloc (Nat.le_refl _) _)).mono ?_); rintro e v1 ⟨rfl, hb⟩; have HB1 := Lib.hid (((Below.refl wr.heap.size wr).alloc (Nat.le_refl _) (.cells #[.int .i64 c, .int .i64 i, .slice p os.length cap, .string ⟨d.toArray⟩] 36)).trans (hb.mono (by simp))); obtain ⟨v2, hs2, hr2, hg2⟩ := (H.out.below HB1.out).keepOther L; have HS := Lib.hid hs2; have HQ := Lib.hid hr2; have HC : Hid (Chg (One B) wr v2) := Lib.hid (chg_below HB1.out (Chg.of_grown hg2 fun k e => .inr (Option.some.inj e).symm)); clear hb hs2 hr2 hg2) | (refine wpList_store rfl _ _ _ rfl ⟨B, 9, none⟩ _ v2 rfl rfl HS.out ?_))
      go_roundw
      case rel => exact .inr ⟨by go_num, HQ.out, HC.out⟩
      case measure => simp [intOf]
    · have HQ := Lib.hid h1
      have HC := Lib.hid h2
      clear h1 h2
      go_wp2_with fail
      go_end0
      exact ⟨rfl, HQ.out, HC.out⟩
theorem grant_none (B : Nat) (w : World) :
    Calls Tryz.prog 80 #[.pointer (some ⟨B, 0, none⟩), .slice none 0 0] w fun e w' => e = .returned (.tuple #[]) ∧ w = w' := by
  go_enter Tryz.func80, Tryz.ntmps80
  go_wp2_with fail
  go_loopw [8] (fun i wr => i = .int .i64 0 ∧ wr = w) (fun i _ => 0)
  case atStart => exact ⟨rfl, rfl⟩
  case round =>
    obtain ⟨rfl, rfl⟩ := hrel
    go_wp2_with fail
    go_end0
    exact ⟨rfl, rfl⟩
set_option maxHeartbeats 3200000 in
theorem ask_any (n B : Nat) (m : Mem) (w : World) (h : Rg B w m) (hf : m.Fit) (hB : B < n) (hn : n ≤ w.heap.size) :
    Calls Tryz.prog 77 #[.pointer (some ⟨B, 0, none⟩)] w (fun e w' => ∃ v, e = .returned v ∧ Packs n w' v [(1, m.nxt, (Pol.ask m.own).1, [])] ∧ Rg B w' (Ng.asked m) ∧ Chg (One B) w w') := by
  have H := Lib.hid h
  have hlt := h.lt
  have hne : Hid (∀ v : World, w.heap.size ≤ v.heap.size → v.heap.size ≠ B) := Lib.hid fun v hv => by omega
  have SP := Lib.hid (spend_any B m w h hf)
  have AK := Lib.hid fun W => Pr.ask_own m.own W
  have F1 : Hid (Ng.Mem.Fit { m with left := Ng.less m.left }) := Lib.hid ⟨hf.st, hf.tries, Ng.less_in _ hf.left, hf.id, hf.may, hf.oth⟩
  obtain ⟨m1, hm1⟩ : ∃ m1 : Mem, m1 = { m with left := Ng.less m.left } := ⟨_, rfl⟩
  rw [← hm1] at SP F1
  have e1 : Hid (m1.nxt = m.nxt ∧ m1.own = m.own ∧ { m1 with id := m1.nxt, sent := true, sid := m1.nxt, link := m1.own } = Ng.asked m) := Lib.hid (by subst hm1; exact ⟨rfl, rfl, rfl⟩)
  rw [← e1.out.2.1] at AK ⊢
  rw [← e1.out.1]
  obtain ⟨K, hK⟩ : ∃ K, K = (Pol.ask m1.own).1 := ⟨_, rfl⟩
  rw [← hK] at AK ⊢
  clear hK
  obtain ⟨E, hE⟩ : ∃ E, E = (Pol.ask m1.own).2 := ⟨_, rfl⟩
  rw [← hE] at AK
  clear hE hm1 h hf
  go_enter Tryz.func77, Tryz.ntmps77
  go_upto_region 4 with (first
    | (go_at_call 78; (refine SP.out.mono ?_); rintro e v1 ⟨rfl, hr1, hg1⟩; have R1 := Lib.hid hr1; have C1 : Hid (Chg (One B) w v1) := Lib.hid (Chg.of_grown hg1 fun k e => .inr (Option.some.inj e).symm); have z1 := hr1.lt; clear hr1 hg1)
    | (refine wpList_load rfl 23 _ rfl ⟨B, 3, none⟩ _ rfl R1.out.own ?_)
    | (go_at_call 30; (refine (AK.out _).mono ?_); rintro e v2 ⟨u, rfl, ho⟩; obtain ⟨pu, cu, hu⟩ := ho.form2; subst hu; have R2 := Lib.hid (R1.out.below ho.2); have C2 : Hid (Chg (One B) w v2) := Lib.hid (C1.out.trans (Chg.of_below ho.2)); have O2 := Lib.hid ((Row.of_owns ho).mono (Nat.le_trans hn C1.out.size)); have AN := Lib.hid (Ans.lit (q := (1, 0, K, [])) O2.out (Nat.le_trans hn C2.out.size) _ rfl); have R3 := Lib.hid (R2.out.below ((Below.refl _ v2).alloc (Nat.le_refl _) (.cells (pcs (1, 0, .slice pu K.length cu, [])).toArray 36))); have NB := Lib.hid (numbered_any n v2.heap.size B m1 _ _ _ R3.out AN.out (.inr (hne.out v2 C2.out.size)) hB F1.out); have C3 : Hid (Chg (One B) w (v2.alloc (.cells (pcs (1, 0, .slice pu K.length cu, [])).toArray 36))) := Lib.hid (C2.out.trans (Chg.of_below ((Below.refl _ v2).alloc (Nat.le_refl _) _))); clear ho)
    | (go_at_call 79; (refine NB.out.mono ?_); rintro e v4 ⟨rfl, hr4, ha4, hc4⟩; have R4 : Hid (Rg B v4 { m1 with id := m1.nxt }) := Lib.hid hr4; have A4 : Hid (Ans n v2.heap.size v4 (.slice (some ⟨v2.heap.size, 0, none⟩) 1 1) [(1, m1.nxt, K, [])]) := Lib.hid ha4; have C4 : Hid (Chg (One B) w v4) := Lib.hid (hc4.base C3.out fun k hk e => e.resolve_right (fun e => by have := C2.out.size; omega)); clear hr4 ha4 hc4))
  have k3 := Arr.cell R4.out 3 _ rfl
  have k4 := Arr.cell R4.out 4 _ rfl
  have k5 := Arr.cell R4.out 5 _ rfl
  have k6 := Arr.cell R4.out 6 _ rfl
  have k7 := Arr.cell R4.out 7 _ rfl
  have k8 := Arr.cell R4.out 8 _ rfl
  have k15 := Arr.cell R4.out 15 _ rfl
  have z4 := R4.out.lt
  obtain ⟨v5, hs5, hr5, hg5⟩ := R4.out.drew.keepLast m1.nxt m1.own
  have HS5 := Lib.hid hs5
  have W5 : Hid (Rg B v5 (Ng.asked m)) := Lib.hid (e1.out.2.2 ▸ hr5)
  have C5 : Hid (Chg (One B) w v5) := Lib.hid (C4.out.trans ((Chg.of_below (Below.refl v4.heap.size v4).drew).trans (Chg.of_grown hg5 fun k e => .inr (Option.some.inj e).symm)))
  have A5 : Hid (Ans n v2.heap.size v5 (.slice (some ⟨v2.heap.size, 0, none⟩) 1 1) [(1, m1.nxt, K, [])]) := Lib.hid ((A4.out.below (Below.refl v4.heap.size v4).drew).chg (S := One B) (Chg.of_grown hg5 fun k e => .inr (Option.some.inj e).symm) fun g hg e => by have e : g = B := e; omega)
  clear hs5 hr5 hg5
  go_still_tail 12, (by kernel_rfl)
  change wpList _ _ _ _ _ (World.drew _)
  go_wp2_with (refine wpList_store rfl _ _ _ rfl ⟨B, 16, none⟩ _ v5 rfl rfl HS5.out ?_)
  go_ret
  exact ⟨_, rfl, A5.out.packs, W5.out, C5.out⟩
end Go.Proofs.YteabkmelnoefiaaGreatDoor.Ne
namespace Go.Proofs.YteabkmelnoefiaaGreatDoor.Ne
open Go.RowKit
set_option maxRecDepth 100000
/-- Answers whose options are few and small. -/
def Small (qs : List Ctl.Pk) : Prop := ∀ q ∈ qs, q.2.2.1.length ≤ 1000000 ∧ (∀ o ∈ q.2.2.1, 0 ≤ o.1 ∧ o.1 ≤ 255) ∧ (∀ o ∈ q.2.2.1, o.2.length ≤ 1000000)
theorem Small.nil : Small [] := fun _ h => by cases h
abbrev ActPost (n A B : Nat) (av : Value) (w : World) (r : Mem × List Ctl.Pk × List Ctl.Pk) : Ending → World → Prop := fun e w' => ∃ v, e = .returned v ∧ Packs n w' v r.2.2 ∧ Rg B w' r.1 ∧ Ans n A w' av r.2.1 ∧ Chg (Two B A) w w'
theorem Ans.offB {n A B : Nat} {W W' : World} {v : Value} {qs : List Ctl.Pk} (h : Ans n A W v qs) (k : Chg (One B) W W') (hB : B < n) : Ans n A W' v qs := h.chg k fun g hg e => by have e : g = B := e; omega
theorem Ans.offG {n A B : Nat} {W W' : World} {v : Value} {qs : List Ctl.Pk} (h : Ans n A W v qs) (k : W.grownBy W' (some B)) (hB : B < n) : Ans n A W' v qs := h.offB (Chg.of_grown k fun _ e => .inr (Option.some.inj e).symm) hB
theorem grown_two {A B : Nat} {W W' : World} (k : W.grownBy W' (some B)) : Chg (Two B A) W W' := Chg.of_grown k fun _ e => .inr (.inl (Option.some.inj e).symm)
section
variable (n A B : Nat) (m : Mem) (ev : Int) (av : Value) (qs : List Ctl.Pk) (w : World) (h : Rg B w m) (hf : m.Fit) (ha : Ans n A w av qs) (hne : qs = [] ∨ A ≠ B) (hB : B < n) (hn : n ≤ w.heap.size)
set_option maxHeartbeats 800000
include h ha hB in
theorem act5 : Calls Tryz.prog 52 #[.pointer (some ⟨B, 0, none⟩), .int .i64 5, .int .i64 ev, av] w (ActPost n A B av w ({ m with left := m.tries }, qs, [])) := by
  have HA := Lib.hid ha
  have C := Lib.hid (refill_any B m w h)
  have hlt := h.lt
  clear h ha
  go_enter Tryz.func52, Tryz.ntmps52
  go_wp2_with (go_at_call 75; (refine C.out.mono ?_); rintro e w1 ⟨rfl, hr1, hg1⟩; have R1 := Lib.hid hr1; have G1 := Lib.hid hg1; clear hr1 hg1)
  go_ret
  exact ⟨_, rfl, Packs.nil _ _, R1.out, HA.out.offG G1.out hB, grown_two G1.out⟩
include h ha hB in
theorem act6 : Calls Tryz.prog 52 #[.pointer (some ⟨B, 0, none⟩), .int .i64 6, .int .i64 ev, av] w (ActPost n A B av w ({ m with left := 0 }, qs, [])) := by
  have HA := Lib.hid ha
  have C := Lib.hid (spendAll_any B m w h)
  have hlt := h.lt
  clear h ha
  go_enter Tryz.func52, Tryz.ntmps52
  go_wp2_with (go_at_call 76; (refine C.out.mono ?_); rintro e w1 ⟨rfl, hr1, hg1⟩; have R1 := Lib.hid hr1; have G1 := Lib.hid hg1; clear hr1 hg1)
  go_ret
  exact ⟨_, rfl, Packs.nil _ _, R1.out, HA.out.offG G1.out hB, grown_two G1.out⟩
include h ha hf hB hn in
theorem act7 : Calls Tryz.prog 52 #[.pointer (some ⟨B, 0, none⟩), .int .i64 7, .int .i64 ev, av] w (ActPost n A B av w (Ng.asked m, qs, [(1, m.nxt, (Pol.ask m.own).1, [])])) := by
  have HA := Lib.hid ha
  have C := Lib.hid (ask_any n B m w h hf hB hn)
  clear h ha
  go_enter Tryz.func52, Tryz.ntmps52
  go_wp2_with (go_at_call 77; (refine C.out.mono ?_); rintro e w1 ⟨v1, rfl, hp1, hr1, hg1⟩; have R1 := Lib.hid hr1; have G1 := Lib.hid hg1; have P1 := Lib.hid hp1; clear hr1 hg1 hp1)
  go_ret
  exact ⟨_, rfl, P1.out, R1.out, HA.out.offB G1.out hB, one_two G1.out⟩
include h ha hf hB hn in
theorem act10 : Calls Tryz.prog 52 #[.pointer (some ⟨B, 0, none⟩), .int .i64 10, .int .i64 ev, av] w (ActPost n A B av w ({ m with left := Ng.less m.left, id := m.nxt }, qs, [(5, m.nxt, [], [])])) := by
  have HA := Lib.hid ha
  have SP := Lib.hid (spend_any B m w h hf)
  have F1 : Hid (Ng.Mem.Fit { m with left := Ng.less m.left }) := Lib.hid ⟨hf.st, hf.tries, Ng.less_in _ hf.left, hf.id, hf.may, hf.oth⟩
  have hne : Hid (∀ v : World, w.heap.size ≤ v.heap.size → v.heap.size ≠ B) := Lib.hid fun v hv => by omega
  have hlt := h.lt
  clear h ha hf
  go_enter Tryz.func52, Tryz.ntmps52
  go_wp2_with (first
    | (go_at_call 78; (refine SP.out.mono ?_); rintro e w1 ⟨rfl, hr1, hg1⟩; have R2 := Lib.hid (hr1.below ((Below.refl _ w1).alloc (Nat.le_refl _) (.cells (pcs (5, 0, .slice none 0 0, [])).toArray 36))); have C1 : Hid (Chg (One B) w w1) := Lib.hid (Chg.of_grown hg1 fun _ e => .inr (Option.some.inj e).symm); have AN := Lib.hid (Ans.lit (q := (5, 0, [], [])) (Row.nil n w1) (Nat.le_trans hn C1.out.size) _ rfl); have NB := Lib.hid (numbered_any n w1.heap.size B _ _ _ _ R2.out AN.out (.inr (hne.out w1 C1.out.size)) hB F1.out); have C2 : Hid (Chg (One B) w (w1.alloc (.cells (pcs (5, 0, .slice none 0 0, [])).toArray 36))) := Lib.hid (C1.out.trans (Chg.of_below ((Below.refl _ w1).alloc (Nat.le_refl _) _))); clear hr1 hg1)
    | (go_at_call 79; (refine NB.out.mono ?_); rintro e v4 ⟨rfl, hr4, ha4, hc4⟩; have R4 : Hid (Rg B v4 { m with left := Ng.less m.left, id := m.nxt }) := Lib.hid hr4; have A4 : Hid (Ans n w1.heap.size v4 (.slice (some ⟨w1.heap.size, 0, none⟩) 1 1) [(5, m.nxt, [], [])]) := Lib.hid ha4; have C4 : Hid (Chg (One B) w v4) := Lib.hid (hc4.base C2.out fun k hk e => e.resolve_right (fun e => by have := C1.out.size; omega)); clear hr4 ha4 hc4))
  go_ret
  exact ⟨_, rfl, A4.out.packs, R4.out, HA.out.offB C4.out hB, one_two C4.out⟩
include h ha hB in
theorem act8 (hs : Small qs) : Calls Tryz.prog 52 #[.pointer (some ⟨B, 0, none⟩), .int .i64 8, .int .i64 ev, av] w (ActPost n A B av w ({ m with other := Ng.granted m.other qs }, qs, qs)) := by
  have HA := Lib.hid ha
  have C : Hid (Calls Tryz.prog 80 #[.pointer (some ⟨B, 0, none⟩), av] w fun e w' => e = .returned (.tuple #[]) ∧ Rg B w' { m with other := Ng.granted m.other qs } ∧ Chg (One B) w w') := by
    rcases ha with ⟨rfl, rfl⟩ | ⟨q, u, rfl, rfl, hA, hn, hr⟩
    · exact Lib.hid ((grant_none B w).mono (by rintro e w' ⟨rfl, rfl⟩; exact ⟨rfl, h, Chg.refl _ _⟩))
    · obtain ⟨h1, h2, h3⟩ := hs q (by simp)
      exact Lib.hid (grant_one B A m q.1 q.2.1 u q.2.2.1 q.2.2.2 w h ⟨_, hA⟩ hr.reads h1 h2 h3)
  clear h ha hs
  go_enter Tryz.func52, Tryz.ntmps52
  go_wp2_with (go_at_call 80; (refine C.out.mono ?_); rintro e w1 ⟨rfl, hr1, hg1⟩; have R1 := Lib.hid hr1; have G1 := Lib.hid hg1; clear hr1 hg1)
  go_ret
  exact ⟨_, rfl, (HA.out.offB G1.out hB).packs, R1.out, HA.out.offB G1.out hB, one_two G1.out⟩
include h ha in
theorem act9 (a : Int) (h9 : a = 9 ∨ a = 13) : Calls Tryz.prog 52 #[.pointer (some ⟨B, 0, none⟩), .int .i64 a, .int .i64 ev, av] w (ActPost n A B av w (m, qs, qs)) := by
  have HA := Lib.hid ha
  have H := Lib.hid h
  clear h ha
  rcases h9 with rfl | rfl
  all_goals
    go_enter Tryz.func52, Tryz.ntmps52
    go_wp2_with fail
    go_ret
    exact ⟨_, rfl, HA.out.packs, H.out, HA.out, Chg.refl _ _⟩
include h ha hn in
theorem act11 : Calls Tryz.prog 52 #[.pointer (some ⟨B, 0, none⟩), .int .i64 11, .int .i64 ev, av] w (ActPost n A B av w (m, qs, if ev = 10 then qs else [(6, 0, [], [])])) := by
  have HA := Lib.hid ha
  have H := Lib.hid h
  clear h ha
  by_cases he : ev = 10
  · subst he
    rw [if_pos rfl]
    go_enter Tryz.func52, Tryz.ntmps52
    go_wp2_with fail
    go_ret
    exact ⟨_, rfl, HA.out.packs, H.out, HA.out, Chg.refl _ _⟩
  · rw [if_neg he]
    have q : (ev == 10) = false := by simpa using he
    have L := Lib.hid (Ans.lit (q := (6, 0, [], [])) (Row.nil n w) hn _ rfl)
    have B1 := Lib.hid ((Below.refl w.heap.size w).alloc (Nat.le_refl _) (.cells (pcs (6, 0, .slice none 0 0, [])).toArray 36))
    clear he
    go_enter Tryz.func52, Tryz.ntmps52
    go_wp2_with fail
    go_ret
    exact ⟨_, rfl, L.out.packs, H.out.below B1.out, HA.out.below B1.out, Chg.of_below B1.out⟩
include h ha hf hne hB in
theorem act12 : Calls Tryz.prog 52 #[.pointer (some ⟨B, 0, none⟩), .int .i64 12, .int .i64 ev, av] w (ActPost n A B av w ((Ng.numbered m qs).1, (Ng.numbered m qs).2, (Ng.numbered m qs).2)) := by
  have NB := Lib.hid (numbered_any n A B m av qs w h ha hne hB hf)
  clear h ha hf
  go_enter Tryz.func52, Tryz.ntmps52
  go_wp2_with (go_at_call 79; (refine NB.out.mono ?_); rintro e v4 ⟨rfl, hr4, ha4, hc4⟩; have R4 := Lib.hid hr4; have A4 := Lib.hid ha4; have C4 := Lib.hid hc4; clear hr4 ha4 hc4)
  go_ret
  exact ⟨_, rfl, A4.out.packs, R4.out, A4.out, C4.out⟩
include h ha in
theorem act_none (a : Int) (h5 : a ≠ 5) (h6 : a ≠ 6) (h7 : a ≠ 7) (h8 : a ≠ 8) (h9 : a ≠ 9) (h10 : a ≠ 10) (h11 : a ≠ 11) (h12 : a ≠ 12) (h13 : a ≠ 13) : Calls Tryz.prog 52 #[.pointer (some ⟨B, 0, none⟩), .int .i64 a, .int .i64 ev, av] w (ActPost n A B av w (m, qs, [])) := by
  have HA := Lib.hid ha
  have H := Lib.hid h
  have q5 : (a == 5) = false := by simpa using h5
  have q6 : (a == 6) = false := by simpa using h6
  have q7 : (a == 7) = false := by simpa using h7
  have q8 : (a == 8) = false := by simpa using h8
  have q9 : (a == 9) = false := by simpa using h9
  have q10 : (a == 10) = false := by simpa using h10
  have q11 : (a == 11) = false := by simpa using h11
  have q12 : (a == 12) = false := by simpa using h12
  have q13 : (a == 13) = false := by simpa using h13
  clear h ha h5 h6 h7 h8 h9 h10 h11 h12 h13
  go_enter Tryz.func52, Tryz.ntmps52
  go_wp2_with fail
  go_ret
  exact ⟨_, rfl, Packs.nil _ _, H.out, HA.out, Chg.refl _ _⟩
include h hf ha hne hB hn in
/-- An action, whichever. -/
theorem act_any (a : Int) (hs : Small qs) : Calls Tryz.prog 52 #[.pointer (some ⟨B, 0, none⟩), .int .i64 a, .int .i64 ev, av] w (ActPost n A B av w (Ng.mact ev m qs a)) := by
  by_cases h5 : a = 5
  · subst h5; exact act5 n A B m ev av qs w h ha hB
  by_cases h6 : a = 6
  · subst h6; exact act6 n A B m ev av qs w h ha hB
  by_cases h7 : a = 7
  · subst h7; exact act7 n A B m ev av qs w h hf ha hB hn
  by_cases h8 : a = 8
  · subst h8; exact act8 n A B m ev av qs w h ha hB hs
  by_cases h9 : a = 9
  · subst h9; exact act9 n A B m ev av qs w h ha 9 (.inl rfl)
  by_cases h10 : a = 10
  · subst h10; exact act10 n A B m ev av qs w h hf ha hB hn
  by_cases h11 : a = 11
  · subst h11; exact act11 n A B m ev av qs w h ha hn
  by_cases h12 : a = 12
  · subst h12; exact act12 n A B m ev av qs w h hf ha hne hB
  by_cases h13 : a = 13
  · subst h13; exact act9 n A B m ev av qs w h ha 13 (.inr rfl)
  have e1 : Ng.mact ev m qs a = (m, qs, []) := by unfold Ng.mact; rw [if_neg h5, if_neg h6, if_neg h7, if_neg h8, if_neg h9, if_neg h10, if_neg h11, if_neg h12, if_neg h13]
  rw [e1]
  exact act_none n A B m ev av qs w h ha a h5 h6 h7 h8 h9 h10 h11 h12 h13
end
end Go.Proofs.YteabkmelnoefiaaGreatDoor.Ne
