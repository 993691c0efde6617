/-
  Stage 16: contracts of the program's receive and Take.
-/
import Derived.Test.YtaagfmnpeimakaaDoorCp6
namespace Go.Proofs.YtaagfmnpeimakaaDoor.Cp
open Go.RowKit
set_option maxRecDepth 100000
theorem code_good {c i : Int} {v n : List UInt8} (h : Chp.code (c, i, v, n) = 0) : 1 ≤ c ∧ c ≤ 4 ∧ v.length ≤ 255 ∧ n.length ≤ 253 := by
  rcases Chp.code_ways c i v n with ⟨_, e⟩ | ⟨_, _, e⟩ | ⟨_, _, _, e⟩ | ⟨_, _, _, _, e⟩ | ⟨h1, h2, h3, h4, _⟩
  · omega
  · omega
  · omega
  · omega
  · unfold Chp.kind at h1
    simp only [Bool.and_eq_true, decide_eq_true_eq] at h1
    refine ⟨h1.1, h1.2, ?_, h4⟩
    cases hv : Chp.val c
    · rw [Chp.holds_none c v h3 hv]; simp
    · exact (Chp.holds_val c v h3 hv).2
section
variable (B : Nat) (p : Pf) (i : Int) (v n : List UInt8) (w : World) (h : Rg B w p)
include h
set_option maxHeartbeats 1600000 in
theorem receive_challenge (hf : p.Fit) (hv : v.length ≤ 1000) (T : Hid (Dg.Tab w)) :
    Calls Tryd.prog 36 #[.pointer (some ⟨B, 0, none⟩), mv (1, i, v, n)] w (RecPost B w (p, [(2, i, Prf.sum i p.secret v, p.name)])) := by
  obtain ⟨w1, hw1, hb, hx⟩ := box_msg w (1, i, v, n)
  have HB := Lib.hid hb
  have HX := Lib.hid hx
  have H1 := Lib.hid (h.below hb)
  have k0 := HX.out.cell 0 _ rfl
  have k1 := HX.out.cell 1 _ rfl
  have k2 := HX.out.cell 2 _ rfl
  have hn := hf.name
  have hs := hf.secret
  have D1 : Hid (Below w1.heap.size w1 w1.drew) := Lib.hid (Below.refl w1.heap.size w1).drew
  have AN := Lib.hid (answer_any B p i v w1.drew (H1.out.below D1.out) (by omega) (by omega) (Lib.hid (T.out.below (hb.trans (D1.out.mono hb.size)))))
  generalize Prf.sum i p.secret v = D at *
  have NM := Lib.hid fun W hW => named_any B p 2 i D W hW (by omega)
  have hlt := H1.out.lt
  have hlx := hx.lt
  have m1 : w1.drew.cell? ⟨w.heap.size, 1, none⟩ = some (.int .i64 i) ∧ w1.drew.cell? ⟨w.heap.size, 2, none⟩ = some (.string ⟨v.toArray⟩) := ⟨k1, k2⟩
  clear h hb hx hf hn hs hv T
  go_enter Tryd.func36, Tryd.ntmps36
  go_upto_region 1 with (fail)
  rw [← hw1]
  clear hw1
  go_wp2_with fail
  go_region_held (fun a => a.cell? ⟨w.heap.size, 1, none⟩ = some (.int .i64 i) ∧ a.cell? ⟨w.heap.size, 2, none⟩ = some (.string ⟨v.toArray⟩)) (with_reducible (first | assumption | exact m1 | exact hS5 | exact hS7 | exact hS8))
    (first
      | (go_at_call 44; (refine AN.out.mono ?_); rintro e w5 ⟨rfl, hb⟩; have hb5 : Below w1.heap.size w1 w5 := D1.out.trans hb; have x5 := HX.out.below hb5; have hS5 := And.intro (x5.cell 1 _ rfl) (x5.cell 2 _ rfl); have B5 := Lib.hid hb5; have X5 := Lib.hid x5; have R5 := Lib.hid (H1.out.below hb5); clear hb hb5 x5)
      | (go_at_call 39; (refine (NM.out _ R5.out).mono ?_); rintro e w7 ⟨rfl, hb⟩; have x7 := X5.out.below hb; have hS7 := And.intro (x7.cell 1 _ rfl) (x7.cell 2 _ rfl); have x8 := x7.below ((Below.refl w7.heap.size w7).alloc (Nat.le_refl _) (.cells #[.int .i64 2, .int .i64 i, .string ⟨D.toArray⟩, .string ⟨p.name.toArray⟩] 33)); have hS8 := And.intro (x8.cell 1 _ rfl) (x8.cell 2 _ rfl); have B7 := Lib.hid (bel2 B5.out hb); have R7 := Lib.hid (R5.out.below hb); clear hb x7 x8))
  go_wp2_with fail
  go_ret
  exact ⟨_, rfl, Out.lit (Nat.le_trans HB.out.size B7.out.size) (2, i, D, p.name) _ rfl, R7.out.below ((Below.refl w7.heap.size w7).alloc (Nat.le_refl _) _), Chg.of_below (bel2 (bel2 HB.out B7.out) ((Below.refl w7.heap.size w7).alloc (Nat.le_refl _) _))⟩
set_option maxHeartbeats 1600000 in
theorem receive_response (hf : p.Fit) (T : Hid (Dg.Tab w)) :
    Calls Tryd.prog 36 #[.pointer (some ⟨B, 0, none⟩), mv (2, i, v, n)] w (RecPost B w (Prf.judge p i v)) := by
  obtain ⟨w1, hw1, hb, hx⟩ := box_msg w (2, i, v, n)
  have HB := Lib.hid hb
  have JU := Lib.hid (judge_any B p 2 i v n w1 (h.below hb) hf (Lib.hid (T.out.below hb)))
  obtain ⟨R, hR⟩ : ∃ R, R = Prf.judge p i v := ⟨_, rfl⟩
  rw [← hR] at JU ⊢
  have k0 := hx.cell 0 _ rfl
  have k1 := hx.cell 1 _ rfl
  have k2 := hx.cell 2 _ rfl
  have k3 := hx.cell 3 _ rfl
  have hlx := hx.lt
  clear h hb hx hf T hR
  go_enter Tryd.func36, Tryd.ntmps36
  go_upto_region 1 with (fail)
  rw [← hw1]
  clear hw1
  go_wp2_with (go_at_call 45; (refine JU.out.mono ?_); rintro e w4 ⟨v4, rfl, ho, hr4, hc4⟩; have HO := Lib.hid ho; have HR := Lib.hid hr4; have HC := Lib.hid hc4; clear ho hr4 hc4)
  go_ret
  exact ⟨_, rfl, HO.out.mono HB.out.size, HR.out, chg_below HB.out HC.out⟩
set_option maxHeartbeats 1600000 in
theorem receive_success :
    Calls Tryd.prog 36 #[.pointer (some ⟨B, 0, none⟩), mv (3, i, v, n)] w (RecPost B w ({ p with taken := true }, [])) := by
  obtain ⟨w1, hw1, hb, hx⟩ := box_msg w (3, i, v, n)
  have HB := Lib.hid hb
  have H1 := Lib.hid (h.below hb)
  have k0 := hx.cell 0 _ rfl
  have hlx := hx.lt
  have c5 := Arr.cell H1.out 5 _ rfl
  have f5 := Arr.frozen H1.out 5
  have hlt := H1.out.lt
  clear h hb hx
  go_enter Tryd.func36, Tryd.ntmps36
  go_upto_region 1 with (fail)
  rw [← hw1]
  clear hw1
  go_wp2_with fail
  go_ret
  exact ⟨_, rfl, Out.nil _ _, H1.out.setTaken true, chg_below HB.out (one_cell _ _ _ _)⟩
set_option maxHeartbeats 1600000 in
theorem receive_failure :
    Calls Tryd.prog 36 #[.pointer (some ⟨B, 0, none⟩), mv (4, i, v, n)] w (RecPost B w ({ p with failed := true }, [])) := by
  obtain ⟨w1, hw1, hb, hx⟩ := box_msg w (4, i, v, n)
  have HB := Lib.hid hb
  have H1 := Lib.hid (h.below hb)
  have k0 := hx.cell 0 _ rfl
  have hlx := hx.lt
  have c7 := Arr.cell H1.out 7 _ rfl
  have f7 := Arr.frozen H1.out 7
  have hlt := H1.out.lt
  clear h hb hx
  go_enter Tryd.func36, Tryd.ntmps36
  go_upto_region 1 with (fail)
  rw [← hw1]
  clear hw1
  go_wp2_with fail
  go_ret
  exact ⟨_, rfl, Out.nil _ _, H1.out.setFailed true, chg_below HB.out (one_cell _ _ _ _)⟩
theorem receive_any (c : Int) (hf : p.Fit) (T : Hid (Dg.Tab w)) (hc : Chp.code (c, i, v, n) = 0) :
    Calls Tryd.prog 36 #[.pointer (some ⟨B, 0, none⟩), mv (c, i, v, n)] w (RecPost B w (Prf.receive p (c, i, v, n))) := by
  obtain ⟨h1, h2, h3, _⟩ := code_good hc
  have h4 : c = 1 ∨ c = 2 ∨ c = 3 ∨ c = 4 := by omega
  unfold Prf.receive
  rcases h4 with rfl | rfl | rfl | rfl
  · exact receive_challenge B p i v n w h hf (by omega) T
  · exact receive_response B p i v n w h hf T
  · exact receive_success B p i v n w h
  · exact receive_failure B p i v n w h
abbrev TakePost (B : Nat) (w : World) (r : Pf × List Prf.Msg × Int) : Ending → World → Prop := fun e w' => ∃ v, e = .returned (.tuple #[v, .int .i64 r.2.2]) ∧ Out w.heap.size w' v r.2.1 ∧ Rg B w' r.1 ∧ Chg (One B) w w'
set_option maxHeartbeats 1600000 in
/-- The contract of Take. -/
theorem Take_any (c : Int) (hf : p.Fit) (T : Hid (Dg.Tab w)) (hl : v.length ≤ 4611686018427387904) :
    Calls Tryd.prog 17 #[.pointer (some ⟨B, 0, none⟩), mv (c, i, v, n)] w (TakePost B w (Prf.take p (c, i, v, n))) := by
  obtain ⟨w1, hw1, hb, hx⟩ := box_msg w (c, i, v, n)
  have HB := Lib.hid hb
  have HX := Lib.hid hx
  have H1 := Lib.hid (h.below hb)
  have T1 := Lib.hid (T.out.below hb)
  have PU := Lib.hid (H.hput_any c i v n w1 hl)
  have RC := fun (hc : Chp.code (c, i, v, n) = 0) W hW hT => receive_any B p i v n W hW c hf hT hc
  obtain ⟨A, hA⟩ : ∃ A, A = Chp.put (c, i, v, n) := ⟨_, rfl⟩
  rw [← hA] at PU
  have k0 := hx.cell 0 _ rfl
  have k1 := hx.cell 1 _ rfl
  have k2 := hx.cell 2 _ rfl
  have k3 := hx.cell 3 _ rfl
  have hlx := hx.lt
  have hlt := H1.out.lt
  unfold Prf.take
  clear h hb hx hf T hA hl
  generalize Chp.code (c, i, v, n) = q at *
  by_cases hq : q = 0
  · rw [if_neg (by simpa using hq)]
    subst hq
    have RD := Lib.hid (RC rfl)
    clear RC
    cases hp : p.failed
    · rw [if_neg (by decide)]
      obtain ⟨R, hR⟩ : ∃ R, R = Prf.receive p (c, i, v, n) := ⟨_, rfl⟩
      rw [← hR] at RD ⊢
      clear hR
      go_enter Tryd.func17, Tryd.ntmps17
      go_upto_region 1 with (fail)
      rw [← hw1]
      clear hw1
      go_wp2_with (first
        | (go_at_call 35; (refine PU.out.mono ?_); rintro e w4 ⟨rfl, hb4⟩; have H4 := Lib.hid (H1.out.below hb4); have B4 := Lib.hid (bel2 HB.out hb4); have T4 := Lib.hid (T1.out.below hb4); have c7 : w4.cell? ⟨B, 7, none⟩ = some (.bool false) := (by have := Arr.cell H4.out 7 _ rfl; rwa [hp] at this); have x4 := HX.out.below hb4; have g0 := x4.cell 0 _ rfl; have g1 := x4.cell 1 _ rfl; have g2 := x4.cell 2 _ rfl; have g3 := x4.cell 3 _ rfl; have z4 := H4.out.lt; have zx4 := x4.lt; clear hb4 x4))
      refine (RD.out _ H4.out T4).mono ?_
      rintro e w6 ⟨v6, rfl, ho, hr6, hc6⟩
      have HO := Lib.hid ho
      have HR := Lib.hid hr6
      have HC := Lib.hid hc6
      clear ho hr6 hc6
      go_wp2_with fail
      go_ret2
      exact ⟨_, rfl, HO.out.mono B4.out.size, HR.out, chg_below B4.out HC.out⟩
    · rw [if_pos rfl]
      clear RD
      go_enter Tryd.func17, Tryd.ntmps17
      go_upto_region 1 with (fail)
      rw [← hw1]
      clear hw1
      go_wp2_with (go_at_call 35; (refine PU.out.mono ?_); rintro e w4 ⟨rfl, hb4⟩; have H4 := Lib.hid (H1.out.below hb4); have B4 := Lib.hid (bel2 HB.out hb4); have c7 : w4.cell? ⟨B, 7, none⟩ = some (.bool true) := (by have := Arr.cell H4.out 7 _ rfl; rwa [hp] at this); have z4 := H4.out.lt; clear hb4)
      go_ret2
      exact ⟨_, rfl, Out.nil _ _, H4.out, Chg.of_below B4.out⟩
  · rw [if_pos (by simpa using hq)]
    have q1 : (q != 0) = true := by simpa using hq
    clear RC
    go_enter Tryd.func17, Tryd.ntmps17
    go_upto_region 1 with (fail)
    rw [← hw1]
    clear hw1
    go_wp2_with (go_at_call 35; (refine PU.out.mono ?_); rintro e w4 ⟨rfl, hb4⟩; have H4 := Lib.hid (H1.out.below hb4); have B4 := Lib.hid (bel2 HB.out hb4); clear hb4)
    go_ret2
    exact ⟨_, rfl, Out.nil _ _, H4.out, Chg.of_below B4.out⟩
end
end Go.Proofs.YtaagfmnpeimakaaDoor.Cp
