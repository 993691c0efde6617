/-
  Stage 16: contract of the document's Take.
-/
import Derived.Test.YtaagfmnpeimakaaDoorCr1
import Derived.Test.YtaagfmnpeimakaaDoorCp7
import Derived.Test.YtaagfmnpeimakaaDoorH6
import Derived.Deep.AppendLies
namespace Go.Proofs.YtaagfmnpeimakaaDoor.Cp
open Go.RowKit
set_option maxRecDepth 100000
abbrev RTakePost (B : Nat) (w : World) (r : Pf × List Prf.Msg × Int) : Ending → World → Prop := fun e w' => ∃ v, e = .returned (.tuple #[v, .int .i64 r.2.2]) ∧ Out w.heap.size w' v r.2.1 ∧ Rf B w' r.1 ∧ Chg (One B) w w'
section
variable (B : Nat) (p : Pf) (c i : Int) (v n : List UInt8) (w : World) (h : Rf B w p) (hv : v.length ≤ 4611686018427387904) (hn : n.length ≤ 4611686018427387904)
include h hv hn
set_option maxHeartbeats 1600000 in
theorem rtake_form (hq : Chp.code (c, i, v, n) ≠ 0) :
    Calls Tryd.prog 18 #[.pointer (some ⟨B, 0, none⟩), mv (c, i, v, n)] w (RTakePost B w (p, [], 1600)) := by
  obtain ⟨w1, hw1, hb, hx⟩ := box_msg w (c, i, v, n)
  have HB := Lib.hid hb
  have H1 := Lib.hid (h.below hb)
  have PU := Lib.hid (H.rchap_any c i v n w1 hv hn)
  obtain ⟨A, hA⟩ : ∃ A, A = Chp.put (c, i, v, n) := ⟨_, rfl⟩
  rw [← hA] at PU
  have k0 := hx.cell 0 _ rfl
  have k1 := hx.cell 1 _ rfl
  have k2 := hx.cell 2 _ rfl
  have k3 := hx.cell 3 _ rfl
  have hlx := hx.lt
  clear h hb hx hA hv hn
  generalize Chp.code (c, i, v, n) = q at *
  have q1 : (q != 0) = true := by simpa using hq
  go_enter Tryd.func18, Tryd.ntmps18
  go_upto_region 1 with (fail)
  rw [← hw1]
  clear hw1
  go_wp2_with (go_at_call 37; (refine PU.out.mono ?_); rintro e w4 ⟨rfl, hb4⟩; have H4 := Lib.hid (H1.out.below hb4); have B4 := Lib.hid (bel2 HB.out hb4); clear hb4)
  go_ret2
  exact ⟨_, rfl, Out.nil _ _, H4.out, Chg.of_below B4.out⟩
set_option maxHeartbeats 1600000 in
theorem rtake_failed (hq : Chp.code (c, i, v, n) = 0) (hp : p.failed = true) :
    Calls Tryd.prog 18 #[.pointer (some ⟨B, 0, none⟩), mv (c, i, v, n)] w (RTakePost B w (p, [], 0)) := by
  obtain ⟨w1, hw1, hb, hx⟩ := box_msg w (c, i, v, n)
  have HB := Lib.hid hb
  have H1 := Lib.hid (h.below hb)
  have PU := Lib.hid (H.rchap_any c i v n w1 hv hn)
  rw [hq] at PU
  obtain ⟨A, hA⟩ : ∃ A, A = Chp.put (c, i, v, n) := ⟨_, rfl⟩
  rw [← hA] at PU
  have k0 := hx.cell 0 _ rfl
  have k1 := hx.cell 1 _ rfl
  have k2 := hx.cell 2 _ rfl
  have k3 := hx.cell 3 _ rfl
  have hlx := hx.lt
  clear h hb hx hA hv hn hq
  go_enter Tryd.func18, Tryd.ntmps18
  go_upto_region 1 with (fail)
  rw [← hw1]
  clear hw1
  go_wp2_with (go_at_call 37; (refine PU.out.mono ?_); rintro e w4 ⟨rfl, hb4⟩; have H4 := Lib.hid (H1.out.below hb4); have B4 := Lib.hid (bel2 HB.out hb4); have c2 : w4.cell? ⟨B, 2, none⟩ = some (.bool true) := (by have := Arr.cell H4.out 2 _ rfl; rwa [hp] at this); have z4 := H4.out.lt; clear hb4)
  go_ret2
  exact ⟨_, rfl, Out.nil _ _, H4.out, Chg.of_below B4.out⟩
end
section
variable (B : Nat) (p : Pf) (i : Int) (v n : List UInt8) (w : World) (h : Rf B w p) (hp : p.failed = false)
include h hp
set_option maxHeartbeats 1600000 in
theorem rtake_challenge (hq : Chp.code (1, i, v, n) = 0) (hs : p.secret.length ≤ 1000) :
    Calls Tryd.prog 18 #[.pointer (some ⟨B, 0, none⟩), mv (1, i, v, n)] w (RTakePost B w (p, [(2, i, Prf.sum i p.secret v, p.name)], 0)) := by
  obtain ⟨_, _, hv, hn⟩ := code_good hq
  obtain ⟨w1, hw1, hb, hx⟩ := box_msg w (1, i, v, n)
  have HB := Lib.hid hb
  have HX := Lib.hid hx
  have H1 := Lib.hid (h.below hb)
  have PU := Lib.hid (H.rchap_any 1 i v n w1 (by omega) (by omega))
  rw [hq] at PU
  obtain ⟨A, hA⟩ : ∃ A, A = Chp.put (1, i, v, n) := ⟨_, rfl⟩
  rw [← hA] at PU
  have CH := Lib.hid fun W => Dg.rchap_any i p.secret v W (by omega)
  unfold Prf.sum
  generalize Dig.md5 (Dig.parts i p.secret v) = D at *
  have k0 := hx.cell 0 _ rfl
  have k1 := hx.cell 1 _ rfl
  have k2 := hx.cell 2 _ rfl
  have k3 := hx.cell 3 _ rfl
  have hlx := hx.lt
  clear h hb hx hA hv hn hq hs
  go_enter Tryd.func18, Tryd.ntmps18
  go_upto_region 1 with (fail)
  rw [← hw1]
  clear hw1
  go_wp2_with (go_at_call 37; (refine PU.out.mono ?_); rintro e w4 ⟨rfl, hb4⟩; have H4 := Lib.hid (H1.out.below hb4); have B4 := Lib.hid (bel2 HB.out hb4); have X4 := Lib.hid (HX.out.below hb4); have c2 : w4.cell? ⟨B, 2, none⟩ = some (.bool false) := (by have := Arr.cell H4.out 2 _ rfl; rwa [hp] at this); have z4 := H4.out.lt; have g0 := X4.out.cell 0 _ rfl; have zx4 := X4.out.lt; clear hb4)
  have g1 : w4.drew.cell? ⟨w.heap.size, 1, none⟩ = some (.int .i64 i) := X4.out.cell 1 _ rfl
  have g2 : w4.drew.cell? ⟨w.heap.size, 2, none⟩ = some (.string ⟨v.toArray⟩) := X4.out.cell 2 _ rfl
  have r3 : w4.drew.cell? ⟨B, 3, none⟩ = some (.string ⟨p.name.toArray⟩) := Arr.cell H4.out 3 _ rfl
  have r4 : w4.drew.cell? ⟨B, 4, none⟩ = some (.string ⟨p.secret.toArray⟩) := Arr.cell H4.out 4 _ rfl
  have m1 := And.intro g1 (And.intro g2 (And.intro r3 r4))
  clear g0 c2
  go_region_held (fun a => a.cell? ⟨w.heap.size, 1, none⟩ = some (.int .i64 i) ∧ a.cell? ⟨w.heap.size, 2, none⟩ = some (.string ⟨v.toArray⟩) ∧ a.cell? ⟨B, 3, none⟩ = some (.string ⟨p.name.toArray⟩) ∧ a.cell? ⟨B, 4, none⟩ = some (.string ⟨p.secret.toArray⟩)) (with_reducible (first | assumption | exact m1 | exact hS5 | exact hS6))
    (first | (go_at_call 16; (refine (CH.out _).mono ?_); rintro e w5 ⟨rfl, hb⟩; have hb5 : Below w4.heap.size w4 w5 := ⟨hb.os, hb.tape, hb.output, hb.size, hb.block⟩; have x5 := X4.out.below hb5; have y5 := Arr.below H4.out hb5; have hS5 := And.intro (x5.cell 1 _ rfl) (And.intro (x5.cell 2 _ rfl) (And.intro (y5.cell 3 _ rfl) (y5.cell 4 _ rfl))); have hb6 := (Below.refl w5.heap.size w5).alloc (Nat.le_refl _) (.cells #[.int .i64 2, .int .i64 i, .string ⟨D.toArray⟩, .string ⟨p.name.toArray⟩] 33); have x6 := x5.below hb6; have y6 := Arr.below y5 hb6; have hS6 := And.intro (x6.cell 1 _ rfl) (And.intro (x6.cell 2 _ rfl) (And.intro (y6.cell 3 _ rfl) (y6.cell 4 _ rfl))); have B5 := Lib.hid hb5; clear hb hb5 x5 y5 hb6 x6 y6))
  go_wp2_with fail
  go_ret2
  exact ⟨_, rfl, Out.lit (Nat.le_trans B4.out.size B5.out.size) (2, i, D, p.name) _ rfl, (H4.out.below B5.out).below ((Below.refl w5.heap.size w5).alloc (Nat.le_refl _) _), Chg.of_below (bel2 (bel2 B4.out B5.out) ((Below.refl w5.heap.size w5).alloc (Nat.le_refl _) _))⟩
set_option maxHeartbeats 1600000 in
theorem rtake_success (hq : Chp.code (3, i, v, n) = 0) :
    Calls Tryd.prog 18 #[.pointer (some ⟨B, 0, none⟩), mv (3, i, v, n)] w (RTakePost B w ({ p with taken := true }, [], 0)) := by
  obtain ⟨_, _, hv, hn⟩ := code_good hq
  obtain ⟨w1, hw1, hb, hx⟩ := box_msg w (3, i, v, n)
  have HB := Lib.hid hb
  have HX := Lib.hid hx
  have H1 := Lib.hid (h.below hb)
  have PU := Lib.hid (H.rchap_any 3 i v n w1 (by omega) (by omega))
  rw [hq] at PU
  obtain ⟨A, hA⟩ : ∃ A, A = Chp.put (3, i, v, n) := ⟨_, rfl⟩
  rw [← hA] at PU
  have k0 := hx.cell 0 _ rfl
  have k1 := hx.cell 1 _ rfl
  have k2 := hx.cell 2 _ rfl
  have k3 := hx.cell 3 _ rfl
  have hlx := hx.lt
  clear h hb hx hA hv hn hq
  go_enter Tryd.func18, Tryd.ntmps18
  go_upto_region 1 with (fail)
  rw [← hw1]
  clear hw1
  go_wp2_with (go_at_call 37; (refine PU.out.mono ?_); rintro e w4 ⟨rfl, hb4⟩; have H4 := Lib.hid (H1.out.below hb4); have B4 := Lib.hid (bel2 HB.out hb4); have c2 : w4.cell? ⟨B, 2, none⟩ = some (.bool false) := (by have := Arr.cell H4.out 2 _ rfl; rwa [hp] at this); have c1 := Arr.cell H4.out 1 _ rfl; have f1 := Arr.frozen H4.out 1; have z4 := H4.out.lt; have g0 := (HX.out.below hb4).cell 0 _ rfl; have zx4 := (HX.out.below hb4).lt; clear hb4)
  go_ret2
  exact ⟨_, rfl, Out.nil _ _, H4.out.setTaken true, chg_below B4.out (one_cell _ _ _ _)⟩
set_option maxHeartbeats 1600000 in
theorem rtake_failure (hq : Chp.code (4, i, v, n) = 0) :
    Calls Tryd.prog 18 #[.pointer (some ⟨B, 0, none⟩), mv (4, i, v, n)] w (RTakePost B w ({ p with failed := true }, [], 0)) := by
  obtain ⟨_, _, hv, hn⟩ := code_good hq
  obtain ⟨w1, hw1, hb, hx⟩ := box_msg w (4, i, v, n)
  have HB := Lib.hid hb
  have HX := Lib.hid hx
  have H1 := Lib.hid (h.below hb)
  have PU := Lib.hid (H.rchap_any 4 i v n w1 (by omega) (by omega))
  rw [hq] at PU
  obtain ⟨A, hA⟩ : ∃ A, A = Chp.put (4, i, v, n) := ⟨_, rfl⟩
  rw [← hA] at PU
  have k0 := hx.cell 0 _ rfl
  have k1 := hx.cell 1 _ rfl
  have k2 := hx.cell 2 _ rfl
  have k3 := hx.cell 3 _ rfl
  have hlx := hx.lt
  clear h hb hx hA hv hn hq
  go_enter Tryd.func18, Tryd.ntmps18
  go_upto_region 1 with (fail)
  rw [← hw1]
  clear hw1
  go_wp2_with (go_at_call 37; (refine PU.out.mono ?_); rintro e w4 ⟨rfl, hb4⟩; have H4 := Lib.hid (H1.out.below hb4); have B4 := Lib.hid (bel2 HB.out hb4); have c2 : w4.cell? ⟨B, 2, none⟩ = some (.bool false) := (by have := Arr.cell H4.out 2 _ rfl; rwa [hp] at this); have f2 := Arr.frozen H4.out 2; have z4 := H4.out.lt; have g0 := (HX.out.below hb4).cell 0 _ rfl; have zx4 := (HX.out.below hb4).lt; clear hb4)
  go_ret2
  exact ⟨_, rfl, Out.nil _ _, H4.out.setFailed true, chg_below B4.out (one_cell _ _ _ _)⟩
end
section
variable (B : Nat) (p : Pf) (i : Int) (v n : List UInt8) (w : World) (h : Rf B w p) (hp : p.failed = false) (hq : Chp.code (2, i, v, n) = 0)
include h hp hq
set_option maxHeartbeats 1600000 in
theorem rtake_none (hz : p.challenge = [] ∨ i ≠ 1) :
    Calls Tryd.prog 18 #[.pointer (some ⟨B, 0, none⟩), mv (2, i, v, n)] w (RTakePost B w (p, [], 0)) := by
  obtain ⟨_, _, hv, hn⟩ := code_good hq
  obtain ⟨w1, hw1, hb, hx⟩ := box_msg w (2, i, v, n)
  have HB := Lib.hid hb
  have HX := Lib.hid hx
  have H1 := Lib.hid (h.below hb)
  have PU := Lib.hid (H.rchap_any 2 i v n w1 (by omega) (by omega))
  rw [hq] at PU
  obtain ⟨A, hA⟩ : ∃ A, A = Chp.put (2, i, v, n) := ⟨_, rfl⟩
  rw [← hA] at PU
  have k0 := hx.cell 0 _ rfl
  have k1 := hx.cell 1 _ rfl
  have k2 := hx.cell 2 _ rfl
  have k3 := hx.cell 3 _ rfl
  have hlx := hx.lt
  obtain ⟨E, hE⟩ : ∃ E, E = ByteArray.mk p.challenge.toArray := ⟨_, rfl⟩
  have hz2 : E.toList.isEmpty = true ∨ E.toList.isEmpty = false ∧ (i != 1) = true := by
    rw [hE, empty_text]
    cases hc : p.challenge with
    | nil => exact .inl rfl
    | cons => exact .inr ⟨rfl, by simpa using hz.resolve_left (by rw [hc]; simp)⟩
  clear h hb hx hA hv hn hq hz
  rcases hz2 with hz | ⟨hz, hi⟩
  all_goals
    go_enter Tryd.func18, Tryd.ntmps18
    go_upto_region 1 with (fail)
    rw [← hw1]
    clear hw1
    go_wp2_with (go_at_call 37; (refine PU.out.mono ?_); rintro e w4 ⟨rfl, hb4⟩; have H4 := Lib.hid (H1.out.below hb4); have B4 := Lib.hid (bel2 HB.out hb4); have c2 : w4.cell? ⟨B, 2, none⟩ = some (.bool false) := (by have := Arr.cell H4.out 2 _ rfl; rwa [hp] at this); have c6 : w4.cell? ⟨B, 6, none⟩ = some (.string E) := (by rw [hE]; exact Arr.cell H4.out 6 _ rfl); have z4 := H4.out.lt; have g0 := (HX.out.below hb4).cell 0 _ rfl; have g1 := (HX.out.below hb4).cell 1 _ rfl; have zx4 := (HX.out.below hb4).lt; clear hb4 hE)
    go_ret2
    exact ⟨_, rfl, Out.nil _ _, H4.out, Chg.of_below B4.out⟩
set_option maxHeartbeats 1600000 in
/-- The common beginning: up to the region that judges. -/
theorem rtake_judged (hc : p.challenge ≠ []) (hi : i = 1) (hs : p.expect.length ≤ 1000) (hcl : p.challenge.length ≤ 1000) :
    Calls Tryd.prog 18 #[.pointer (some ⟨B, 0, none⟩), mv (2, i, v, n)] w (RTakePost B w ((Prf.judge p 1 v).1, (Prf.judge p 1 v).2, 0)) := by
  subst hi
  obtain ⟨_, _, hv, hn⟩ := code_good hq
  obtain ⟨w1, hw1, hb, hx⟩ := box_msg w (2, 1, v, n)
  have HB := Lib.hid hb
  have HX := Lib.hid hx
  have H1 := Lib.hid (h.below hb)
  have PU := Lib.hid (H.rchap_any 2 1 v n w1 (by omega) (by omega))
  rw [hq] at PU
  obtain ⟨A, hA⟩ : ∃ A, A = Chp.put (2, 1, v, n) := ⟨_, rfl⟩
  rw [← hA] at PU
  have CH := Lib.hid fun W => Dg.rchap_any 1 p.expect p.challenge W (by omega)
  have k0 := hx.cell 0 _ rfl
  have k1 := hx.cell 1 _ rfl
  have k2 := hx.cell 2 _ rfl
  have k3 := hx.cell 3 _ rfl
  have hlx := hx.lt
  obtain ⟨E, hE⟩ : ∃ E, E = ByteArray.mk p.challenge.toArray := ⟨_, rfl⟩
  rw [← hE] at CH
  have hz : E.toList.isEmpty = false := by
    rw [hE, empty_text]
    cases h : p.challenge with
    | nil => exact absurd h hc
    | cons => rfl
  have hj : Prf.judge p 1 v = if p.proved = true ∨ v = Prf.sum 1 p.expect p.challenge then ({ p with proved := true }, [(3, 1, [], Prf.ok)]) else ({ p with failed := true }, [(4, 1, [], Prf.no)]) := by
    unfold Prf.judge
    rw [if_neg (by simpa using hc)]
  rw [hj]
  unfold Prf.sum
  generalize Dig.md5 (Dig.parts 1 p.expect p.challenge) = D at *
  have HEE := Lib.hid hE
  clear h hb hx hA hv hn hq hc hj hs hcl hE
  cases hpr : p.proved
  · by_cases hvd : v = D
    · subst hvd
      rw [if_pos (.inr rfl)]
      go_enter Tryd.func18, Tryd.ntmps18
      go_upto_region 1 with (fail)
      rw [← hw1]
      clear hw1
      go_wp2_with (go_at_call 37; (refine PU.out.mono ?_); rintro e w4 ⟨rfl, hb4⟩; have H4 := Lib.hid (H1.out.below hb4); have B4 := Lib.hid (bel2 HB.out hb4); have X4 := Lib.hid (HX.out.below hb4); have c2 : w4.cell? ⟨B, 2, none⟩ = some (.bool false) := (by have := Arr.cell H4.out 2 _ rfl; rwa [hp] at this); have c6 : w4.cell? ⟨B, 6, none⟩ = some (.string E) := (by rw [HEE.out]; exact Arr.cell H4.out 6 _ rfl); have z4 := H4.out.lt; have g0 := X4.out.cell 0 _ rfl; have g1 := X4.out.cell 1 _ rfl; have zx4 := X4.out.lt; clear hb4)
      have m1 : w4.drew.cell? ⟨B, 0, none⟩ = some (.bool false) ∧ w4.drew.cell? ⟨B, 5, none⟩ = some (.string ⟨p.expect.toArray⟩) ∧ w4.drew.cell? ⟨B, 6, none⟩ = some (.string E) ∧ w4.drew.cell? ⟨w.heap.size, 2, none⟩ = some (.string ⟨v.toArray⟩) := ⟨(by have := Arr.cell H4.out 0 _ rfl; rwa [hpr] at this), Arr.cell H4.out 5 _ rfl, c6, X4.out.cell 2 _ rfl⟩
      clear g0 g1 c2 c6
      go_region_held (fun a => a.cell? ⟨B, 0, none⟩ = some (.bool false) ∧ a.cell? ⟨B, 5, none⟩ = some (.string ⟨p.expect.toArray⟩) ∧ a.cell? ⟨B, 6, none⟩ = some (.string E) ∧ a.cell? ⟨w.heap.size, 2, none⟩ = some (.string ⟨v.toArray⟩)) (with_reducible (first | assumption | exact m1 | exact hS5))
        (first | (go_at_call 16; (refine (CH.out _).mono ?_); rintro e w5 ⟨rfl, hb⟩; have hb5 : Below w4.heap.size w4 w5 := ⟨hb.os, hb.tape, hb.output, hb.size, hb.block⟩; have y5 := Arr.below H4.out hb5; have x5 := X4.out.below hb5; have e0 : w5.cell? ⟨B, 0, none⟩ = some (.bool false) := (by have := y5.cell 0 _ rfl; rwa [hpr] at this); have e6 : w5.cell? ⟨B, 6, none⟩ = some (.string E) := (by rw [HEE.out]; exact y5.cell 6 _ rfl); have hS5 := And.intro e0 (And.intro (y5.cell 5 _ rfl) (And.intro e6 (x5.cell 2 _ rfl))); have B5 := Lib.hid hb5; have H5 : Hid (Rf B w5 p) := Lib.hid y5; have f0 := Arr.frozen y5 0; have z5 := Arr.lt y5; have e2 := Arr.cell y5 2 _ rfl; have f2 := Arr.frozen y5 2; clear hb hb5 y5 x5 e6))
      have H6 : Hid (Rf B (w5.setCell ⟨B, 0, none⟩ (.bool true)) { p with proved := true }) := Lib.hid (H5.out.setProved true)
      have C6 : Hid (Chg (One B) w (w5.setCell ⟨B, 0, none⟩ (.bool true))) := Lib.hid (chg_below (bel2 B4.out B5.out) (one_cell _ _ _ _))
      clear hp hpr
      go_wp2_with fail
      go_ret2
      have k := Out.lit (W := w5.setCell ⟨B, 0, none⟩ (.bool true)) C6.out.size (3, 1, [], Prf.ok) _ rfl
      rw [show (w5.setCell ⟨B, 0, none⟩ (.bool true)).heap.size = w5.heap.size by simp] at k
      exact ⟨_, rfl, k, H6.out.below ((Below.refl _ _).alloc (Nat.le_refl _) _), chg_then C6.out ((Below.refl _ _).alloc (Nat.le_refl _) _)⟩
    · rw [if_neg (by simpa using hvd)]
      have q2 : (v == D) = false := by simpa using hvd
      go_enter Tryd.func18, Tryd.ntmps18
      go_upto_region 1 with (fail)
      rw [← hw1]
      clear hw1
      go_wp2_with (go_at_call 37; (refine PU.out.mono ?_); rintro e w4 ⟨rfl, hb4⟩; have H4 := Lib.hid (H1.out.below hb4); have B4 := Lib.hid (bel2 HB.out hb4); have X4 := Lib.hid (HX.out.below hb4); have c2 : w4.cell? ⟨B, 2, none⟩ = some (.bool false) := (by have := Arr.cell H4.out 2 _ rfl; rwa [hp] at this); have c6 : w4.cell? ⟨B, 6, none⟩ = some (.string E) := (by rw [HEE.out]; exact Arr.cell H4.out 6 _ rfl); have z4 := H4.out.lt; have g0 := X4.out.cell 0 _ rfl; have g1 := X4.out.cell 1 _ rfl; have zx4 := X4.out.lt; clear hb4)
      have m1 : w4.drew.cell? ⟨B, 0, none⟩ = some (.bool false) ∧ w4.drew.cell? ⟨B, 5, none⟩ = some (.string ⟨p.expect.toArray⟩) ∧ w4.drew.cell? ⟨B, 6, none⟩ = some (.string E) ∧ w4.drew.cell? ⟨w.heap.size, 2, none⟩ = some (.string ⟨v.toArray⟩) := ⟨(by have := Arr.cell H4.out 0 _ rfl; rwa [hpr] at this), Arr.cell H4.out 5 _ rfl, c6, X4.out.cell 2 _ rfl⟩
      clear g0 g1 c2 c6
      go_region_held (fun a => a.cell? ⟨B, 0, none⟩ = some (.bool false) ∧ a.cell? ⟨B, 5, none⟩ = some (.string ⟨p.expect.toArray⟩) ∧ a.cell? ⟨B, 6, none⟩ = some (.string E) ∧ a.cell? ⟨w.heap.size, 2, none⟩ = some (.string ⟨v.toArray⟩)) (with_reducible (first | assumption | exact m1 | exact hS5))
        (first | (go_at_call 16; (refine (CH.out _).mono ?_); rintro e w5 ⟨rfl, hb⟩; have hb5 : Below w4.heap.size w4 w5 := ⟨hb.os, hb.tape, hb.output, hb.size, hb.block⟩; have y5 := Arr.below H4.out hb5; have x5 := X4.out.below hb5; have e0 : w5.cell? ⟨B, 0, none⟩ = some (.bool false) := (by have := y5.cell 0 _ rfl; rwa [hpr] at this); have e6 : w5.cell? ⟨B, 6, none⟩ = some (.string E) := (by rw [HEE.out]; exact y5.cell 6 _ rfl); have hS5 := And.intro e0 (And.intro (y5.cell 5 _ rfl) (And.intro e6 (x5.cell 2 _ rfl))); have B5 := Lib.hid hb5; have H5 : Hid (Rf B w5 p) := Lib.hid y5; have f0 := Arr.frozen y5 0; have z5 := Arr.lt y5; have e2 := Arr.cell y5 2 _ rfl; have f2 := Arr.frozen y5 2; clear hb hb5 y5 x5 e6))
      have H6 : Hid (Rf B (w5.setCell ⟨B, 2, none⟩ (.bool true)) { p with failed := true }) := Lib.hid (H5.out.setFailed true)
      rw [hpr] at H6
      have C6 : Hid (Chg (One B) w (w5.setCell ⟨B, 2, none⟩ (.bool true))) := Lib.hid (chg_below (bel2 B4.out B5.out) (one_cell _ _ _ _))
      clear hp hpr
      go_wp2_with fail
      go_ret2
      have k := Out.lit (W := w5.setCell ⟨B, 2, none⟩ (.bool true)) C6.out.size (4, 1, [], Prf.no) _ rfl
      rw [show (w5.setCell ⟨B, 2, none⟩ (.bool true)).heap.size = w5.heap.size by simp] at k
      exact ⟨_, rfl, k, H6.out.below ((Below.refl _ _).alloc (Nat.le_refl _) _), chg_then C6.out ((Below.refl _ _).alloc (Nat.le_refl _) _)⟩
  · rw [if_pos (.inl rfl)]
    clear CH
    go_enter Tryd.func18, Tryd.ntmps18
    go_upto_region 1 with (fail)
    rw [← hw1]
    clear hw1
    go_wp2_with (go_at_call 37; (refine PU.out.mono ?_); rintro e w4 ⟨rfl, hb4⟩; have H4 := Lib.hid (H1.out.below hb4); have B4 := Lib.hid (bel2 HB.out hb4); have X4 := Lib.hid (HX.out.below hb4); have c2 : w4.cell? ⟨B, 2, none⟩ = some (.bool false) := (by have := Arr.cell H4.out 2 _ rfl; rwa [hp] at this); have c6 : w4.cell? ⟨B, 6, none⟩ = some (.string E) := (by rw [HEE.out]; exact Arr.cell H4.out 6 _ rfl); have z4 := H4.out.lt; have g0 := X4.out.cell 0 _ rfl; have g1 := X4.out.cell 1 _ rfl; have zx4 := X4.out.lt; clear hb4)
    have e0 : w4.cell? ⟨B, 0, none⟩ = some (.bool true) := by have := Arr.cell H4.out 0 _ rfl; rwa [hpr] at this
    have e5 := Arr.cell H4.out 5 _ rfl
    have g2 := X4.out.cell 2 _ rfl
    clear g0 g1 c2
    clear hp hpr
    go_region
    all_goals
      have k0 := e0
      have f0 := Arr.frozen H4.out 0
      have H6 : Hid (Rf B (w4.setCell ⟨B, 0, none⟩ (.bool true)) { p with proved := true }) := Lib.hid (H4.out.setProved true)
      have C6 : Hid (Chg (One B) w (w4.setCell ⟨B, 0, none⟩ (.bool true))) := Lib.hid (chg_below B4.out (one_cell _ _ _ _))
      go_wp2_with fail
      go_ret2
      have k := (Out.lit (W := w4.setCell ⟨B, 0, none⟩ (.bool true)) C6.out.size (3, 1, [], Prf.ok) _ rfl).below (Below.refl _ _).drew
      rw [show (w4.setCell ⟨B, 0, none⟩ (.bool true)).heap.size = w4.heap.size by simp] at k
      exact ⟨_, rfl, k, (H6.out.below ((Below.refl _ _).alloc (Nat.le_refl _) _)).below (Below.refl _ _).drew, chg_then (chg_then C6.out ((Below.refl _ _).alloc (Nat.le_refl _) _)) (Below.refl _ _).drew⟩
end
/-- The contract of the document's Take. -/
theorem rTake_any (B : Nat) (p : Pf) (c i : Int) (v n : List UInt8) (w : World) (h : Rf B w p) (hf : p.Fit) (hv : v.length ≤ 4611686018427387904) (hn : n.length ≤ 4611686018427387904) :
    Calls Tryd.prog 18 #[.pointer (some ⟨B, 0, none⟩), mv (c, i, v, n)] w (RTakePost B w (Prf.take p (c, i, v, n))) := by
  have hs := hf.secret
  have he := hf.expect
  have hc := hf.challenge
  unfold Prf.take
  by_cases hq : Chp.code (c, i, v, n) = 0
  · rw [if_neg (by simpa using hq)]
    by_cases hp : p.failed = true
    · rw [if_pos hp]
      exact rtake_failed B p c i v n w h hv hn hq hp
    · rw [if_neg hp]
      have hp : p.failed = false := by simpa using hp
      obtain ⟨h1, h2, _, _⟩ := code_good hq
      have h4 : c = 1 ∨ c = 2 ∨ c = 3 ∨ c = 4 := by omega
      rcases h4 with rfl | rfl | rfl | rfl
      · exact rtake_challenge B p i v n w h hp hq (by omega)
      · have e : Prf.receive p (2, i, v, n) = Prf.judge p i v := rfl
        rw [e]
        by_cases hz : p.challenge = [] ∨ i ≠ 1
        · have e2 : Prf.judge p i v = (p, []) := by unfold Prf.judge; rw [if_pos hz]
          rw [e2]
          exact rtake_none B p i v n w h hp hq hz
        · have hi : i = 1 := Decidable.byContradiction fun k => hz (.inr k)
          have k := rtake_judged B p i v n w h hp hq (fun k => hz (.inl k)) hi (by omega) (by omega)
          rwa [← hi] at k
      · exact rtake_success B p i v n w h hp hq
      · exact rtake_failure B p i v n w h hp hq
  · rw [if_pos hq]
    exact rtake_form B p c i v n w h hv hn hq
end Go.Proofs.YtaagfmnpeimakaaDoor.Cp
