/-
  Stage 16: contracts of the program's judge, receive and Take.
-/
import Derived.Test.YtaagfmnpeimakaaDoorCp5
import Derived.Test.YtaagfmnpeimakaaDoorCp2
import Derived.Test.YtaagfmnpeimakaaDoorH4
namespace Go.Proofs.YtaagfmnpeimakaaDoor.Cp
open Go.RowKit
set_option maxRecDepth 100000
abbrev RecPost (B : Nat) (w : World) (r : Pf × List Prf.Msg) : Ending → World → Prop := fun e w' => ∃ v, e = .returned v ∧ Out w.heap.size w' v r.2 ∧ Rg B w' r.1 ∧ Chg (One B) w w'
/-- A message that came in, boxed. -/
theorem box_msg (w : World) (m : Prf.Msg) : ∃ w1, w1 = w.alloc (.cells #[.int .i64 m.1, .int .i64 m.2.1, .string ⟨m.2.2.1.toArray⟩, .string ⟨m.2.2.2.toArray⟩] 33) ∧ Below w.heap.size w w1 ∧ Arr w.heap.size w1 (mcs m) :=
  ⟨_, rfl, (Below.refl w.heap.size w).alloc (Nat.le_refl _) _, Arr.new w (mcs m) _⟩
theorem chg_base {B : Nat} {w w1 w2 : World} (hb : Below w.heap.size w w1) (k : Chg (One B) w1 w2) : Chg (One B) w w2 := chg_below hb k
section
variable (B : Nat) (p : Pf) (c i : Int) (v n : List UInt8) (w : World) (h : Rg B w p)
include h
set_option maxHeartbeats 1600000 in
theorem judge_none (hq : (!p.challenge.isEmpty && i == 1) = false) :
    Calls Tryd.prog 45 #[.pointer (some ⟨B, 0, none⟩), mv (c, i, v, n)] w (RecPost B w (p, [])) := by
  obtain ⟨w1, hw1, hb, hx⟩ := box_msg w (c, i, v, n)
  have HB := Lib.hid hb
  have HX := Lib.hid hx
  have H1 := Lib.hid (h.below hb)
  have k1 := HX.out.cell 1 _ rfl
  have AW := Lib.hid fun W hW => awaits_any B p i W hW
  rw [hq] at AW
  have hlt := H1.out.lt
  have hlx := hx.lt
  clear h hb hx hq
  go_enter Tryd.func45, Tryd.ntmps45
  go_upto_region 1 with (fail)
  rw [← hw1]
  clear hw1
  go_quiet ((go_at_call 50; exact Calls.quiet_of_same ((AW.out _ (H1.out.below (below_drewN (Below.refl w1.heap.size w1) _))).mono fun _ _ ⟨h1, h2⟩ => ⟨h1, h2.symm⟩)))
  have H2 := Lib.hid (H1.out.below (below_drewN (Below.refl w1.heap.size w1) nq))
  have HB2 : Hid (Below w.heap.size w (w1.drewN nq)) := Lib.hid (bel2 HB.out (below_drewN (Below.refl w1.heap.size w1) nq))
  generalize w1.drewN nq = w2 at *
  go_wp2_with fail
  go_ret
  exact ⟨_, rfl, Out.nil _ _, H2.out, Chg.of_below HB2.out⟩
set_option maxHeartbeats 1600000 in
theorem judge_yes (hf : p.Fit) (T : Hid (Dg.Tab w)) (hq : (!p.challenge.isEmpty && i == 1) = true) (hr : (p.proved || decide (v = Prf.sum 1 p.expect p.challenge)) = true) :
    Calls Tryd.prog 45 #[.pointer (some ⟨B, 0, none⟩), mv (c, i, v, n)] w (RecPost B w ({ p with proved := true }, [(3, 1, [], Prf.ok)])) := by
  obtain rfl : i = 1 := by
    rw [Bool.and_eq_true] at hq
    simpa using hq.2
  obtain ⟨w1, hw1, hb, hx⟩ := box_msg w (c, 1, v, n)
  have HB := Lib.hid hb
  have HX := Lib.hid hx
  have H1 := Lib.hid (h.below hb)
  have k1 := HX.out.cell 1 _ rfl
  have k2 := HX.out.cell 2 _ rfl
  have AW := Lib.hid fun W hW => awaits_any B p 1 W hW
  rw [hq] at AW
  have hne := hf.name
  have hle := hf.expect
  have hlc := hf.challenge
  have CV := Lib.hid fun W hW hT => conv_any B p v W hW (by omega) (by omega) hT
  rw [hr] at CV
  have T1 := Lib.hid (T.out.below hb)
  have CO := Lib.hid fun W => clone_any { data := #[111, 107] } W (by decide)
  have hlt := H1.out.lt
  have hlx := hx.lt
  have hn2 : Hid (¬ One B w.heap.size) := Lib.hid (fun e => by have := h.lt; omega)
  clear h hb hx hq hr hf hne hle hlc
  go_enter Tryd.func45, Tryd.ntmps45
  go_upto_region 1 with (fail)
  rw [← hw1]
  clear hw1
  go_quiet ((go_at_call 50; exact Calls.quiet_of_same ((AW.out _ (H1.out.below (below_drewN (Below.refl w1.heap.size w1) _))).mono fun _ _ ⟨h1, h2⟩ => ⟨h1, h2.symm⟩)))
  have H2 := Lib.hid (H1.out.below (below_drewN (Below.refl w1.heap.size w1) nq))
  have X2 := Lib.hid (Arr.below HX.out (below_drewN (Below.refl w1.heap.size w1) nq))
  have HB2 : Hid (Below w.heap.size w (w1.drewN nq)) := Lib.hid (bel2 HB.out (below_drewN (Below.refl w1.heap.size w1) nq))
  have T2 := Lib.hid (T1.out.below (below_drewN (Below.refl w1.heap.size w1) nq))
  have k2 := X2.out.cell 2 _ rfl
  clear k1 H1 HX HB T1
  generalize w1.drewN nq = w2 at *
  go_wp2_with fail
  go_still_tail 5, (by kernel_rfl)
  change wpList _ _ _ _ _ (World.drew _)
  have CV2 := Lib.hid (CV.out w2.drew (H2.out.below (Below.refl w2.heap.size w2).drew) (Lib.hid (T2.out.below (Below.refl w2.heap.size w2).drew)))
  go_wp2_with (go_at_call 51; (refine CV2.out.mono ?_); rintro e w4 ⟨rfl, hr4, hc4⟩; have H4 := Lib.hid hr4; have C4 : Hid (Chg (One B) w w4) := Lib.hid (chg_below HB2.out (chg_below (Below.refl w2.heap.size w2).drew hc4)); have X4 := Lib.hid (Arr.chg (w := w2.drew) (X2.out.below (Below.refl w2.heap.size w2).drew) hc4 hn2.out); clear hr4 hc4)
  have m1 : w4.drew.cell? ⟨w.heap.size, 1, none⟩ = some (.int .i64 1) := X4.out.cell 1 _ rfl
  have zx := X4.out.lt
  go_region_held (fun a => a.cell? ⟨w.heap.size, 1, none⟩ = some (.int .i64 1)) (with_reducible (first | assumption | exact m1 | exact hS5 | exact hS6))
    (first | (go_at_call 25; (refine (CO.out _).mono ?_); rintro e w5 ⟨rfl, hb⟩; have hb5 : Below w4.heap.size w4 w5 := ⟨hb.os, hb.tape, hb.output, hb.size, hb.block⟩; have hS5 := (X4.out.below hb5).cell 1 _ rfl; have hS6 := ((X4.out.below hb5).below ((Below.refl w5.heap.size w5).alloc (Nat.le_refl _) (.cells #[.int .i64 3, .int .i64 1, .string { data := #[] }, .string { data := #[111, 107] }] 33))).cell 1 _ rfl; have B5 := Lib.hid hb5; clear hb hb5))
  go_wp2_with fail
  go_ret
  exact ⟨_, rfl, Out.lit (Nat.le_trans C4.out.size B5.out.size) (3, 1, [], Prf.ok) _ rfl, (H4.out.below B5.out).below ((Below.refl w5.heap.size w5).alloc (Nat.le_refl _) _), chg_then (chg_then C4.out B5.out) ((Below.refl w5.heap.size w5).alloc (Nat.le_refl _) _)⟩
set_option maxHeartbeats 1600000 in
theorem judge_no (hf : p.Fit) (T : Hid (Dg.Tab w)) (hq : (!p.challenge.isEmpty && i == 1) = true) (hr : (p.proved || decide (v = Prf.sum 1 p.expect p.challenge)) = false) :
    Calls Tryd.prog 45 #[.pointer (some ⟨B, 0, none⟩), mv (c, i, v, n)] w (RecPost B w ({ p with failed := true }, [(4, 1, [], Prf.no)])) := by
  obtain rfl : i = 1 := by
    rw [Bool.and_eq_true] at hq
    simpa using hq.2
  obtain ⟨w1, hw1, hb, hx⟩ := box_msg w (c, 1, v, n)
  have HB := Lib.hid hb
  have HX := Lib.hid hx
  have H1 := Lib.hid (h.below hb)
  have k1 := HX.out.cell 1 _ rfl
  have k2 := HX.out.cell 2 _ rfl
  have AW := Lib.hid fun W hW => awaits_any B p 1 W hW
  rw [hq] at AW
  have hne := hf.name
  have hle := hf.expect
  have hlc := hf.challenge
  have CV := Lib.hid fun W hW hT => conv_any B p v W hW (by omega) (by omega) hT
  rw [hr] at CV
  have T1 := Lib.hid (T.out.below hb)
  have CO := Lib.hid fun W => clone_any { data := #[110, 111] } W (by decide)
  have hlt := H1.out.lt
  have hlx := hx.lt
  have hn2 : Hid (¬ One B w.heap.size) := Lib.hid (fun e => by have := h.lt; omega)
  have hpf : Hid (p.proved = false) := Lib.hid (by
    rw [Bool.or_eq_false_iff] at hr
    exact hr.1)
  clear h hb hx hq hr hf hne hle hlc
  go_enter Tryd.func45, Tryd.ntmps45
  go_upto_region 1 with (fail)
  rw [← hw1]
  clear hw1
  go_quiet ((go_at_call 50; exact Calls.quiet_of_same ((AW.out _ (H1.out.below (below_drewN (Below.refl w1.heap.size w1) _))).mono fun _ _ ⟨h1, h2⟩ => ⟨h1, h2.symm⟩)))
  have H2 := Lib.hid (H1.out.below (below_drewN (Below.refl w1.heap.size w1) nq))
  have X2 := Lib.hid (Arr.below HX.out (below_drewN (Below.refl w1.heap.size w1) nq))
  have HB2 : Hid (Below w.heap.size w (w1.drewN nq)) := Lib.hid (bel2 HB.out (below_drewN (Below.refl w1.heap.size w1) nq))
  have T2 := Lib.hid (T1.out.below (below_drewN (Below.refl w1.heap.size w1) nq))
  have k2 := X2.out.cell 2 _ rfl
  clear k1 H1 HX HB T1
  generalize w1.drewN nq = w2 at *
  go_wp2_with fail
  go_still_tail 5, (by kernel_rfl)
  change wpList _ _ _ _ _ (World.drew _)
  have CV2 := Lib.hid (CV.out w2.drew (H2.out.below (Below.refl w2.heap.size w2).drew) (Lib.hid (T2.out.below (Below.refl w2.heap.size w2).drew)))
  go_wp2_with (go_at_call 51; (refine CV2.out.mono ?_); rintro e w4 ⟨rfl, hr4, hc4⟩; have H4 := Lib.hid hr4; have f7 := Arr.frozen H4.out 7; have k7 := Arr.cell H4.out 7 _ rfl; have z4 := H4.out.lt; have C4 : Hid (Chg (One B) w w4) := Lib.hid (chg_below HB2.out (chg_below (Below.refl w2.heap.size w2).drew hc4)); have X4 := Lib.hid (Arr.chg (w := w2.drew) (X2.out.below (Below.refl w2.heap.size w2).drew) hc4 hn2.out); clear hr4 hc4)
  have H5 : Hid (Rg B (w4.setCell ⟨B, 7, none⟩ (.bool true)) { p with proved := false, failed := true }) := Lib.hid (H4.out.setFailed true)
  have C5 : Hid (Chg (One B) w (w4.setCell ⟨B, 7, none⟩ (.bool true))) := Lib.hid (C4.out.trans (one_cell _ _ _ _))
  have X5 := Lib.hid (Arr.chg X4.out (one_cell w4 B 7 (.bool true)) hn2.out)
  clear f7 k7 H4 C4 X4
  generalize w4.setCell ⟨B, 7, none⟩ (.bool true) = w6 at *
  have m1 : w6.drew.cell? ⟨w.heap.size, 1, none⟩ = some (.int .i64 1) := X5.out.cell 1 _ rfl
  have zx := X5.out.lt
  go_wp2_with fail
  go_region_held (fun a => a.cell? ⟨w.heap.size, 1, none⟩ = some (.int .i64 1)) (with_reducible (first | assumption | exact m1 | exact hS5 | exact hS6))
    (first | (go_at_call 25; (refine (CO.out _).mono ?_); rintro e w5 ⟨rfl, hb⟩; have hb5 : Below w6.heap.size w6 w5 := ⟨hb.os, hb.tape, hb.output, hb.size, hb.block⟩; have hS5 := (X5.out.below hb5).cell 1 _ rfl; have hS6 := ((X5.out.below hb5).below ((Below.refl w5.heap.size w5).alloc (Nat.le_refl _) (.cells #[.int .i64 4, .int .i64 1, .string { data := #[] }, .string { data := #[110, 111] }] 33))).cell 1 _ rfl; have B5 := Lib.hid hb5; clear hb hb5))
  go_wp2_with fail
  go_ret
  refine ⟨_, rfl, Out.lit (Nat.le_trans C5.out.size B5.out.size) (4, 1, [], Prf.no) _ rfl, ?_, chg_then (chg_then C5.out B5.out) ((Below.refl w5.heap.size w5).alloc (Nat.le_refl _) _)⟩
  have k := (H5.out.below B5.out).below ((Below.refl w5.heap.size w5).alloc (Nat.le_refl _) (.cells #[.int .i64 4, .int .i64 1, .string { data := #[] }, .string { data := #[110, 111] }] 33))
  rwa [← hpf.out] at k
/-- The contract of judge. -/
theorem judge_any (hf : p.Fit) (T : Hid (Dg.Tab w)) :
    Calls Tryd.prog 45 #[.pointer (some ⟨B, 0, none⟩), mv (c, i, v, n)] w (RecPost B w (Prf.judge p i v)) := by
  unfold Prf.judge
  by_cases h1 : p.challenge = [] ∨ i ≠ 1
  · rw [if_pos h1]
    refine judge_none B p c i v n w h ?_
    rcases h1 with h1 | h1
    · rw [h1]; rfl
    · rw [Bool.and_eq_false_iff]
      exact .inr (by simpa using h1)
  · rw [if_neg h1]
    have hq : (!p.challenge.isEmpty && i == 1) = true := by
      rw [Bool.and_eq_true]
      refine ⟨?_, ?_⟩
      · cases hc : p.challenge with
        | nil => exact absurd (.inl hc) h1
        | cons => rfl
      · rw [beq_iff_eq]
        exact Decidable.byContradiction fun k => h1 (.inr k)
    by_cases h2 : p.proved = true ∨ v = Prf.sum 1 p.expect p.challenge
    · rw [if_pos h2]
      refine judge_yes B p c i v n w h hf T hq ?_
      rw [Bool.or_eq_true]
      exact h2.imp id decide_eq_true
    · rw [if_neg h2]
      refine judge_no B p c i v n w h hf T hq ?_
      rw [Bool.or_eq_false_iff]
      refine ⟨?_, decide_eq_false fun k => h2 (.inr k)⟩
      cases hp : p.proved
      · rfl
      · exact absurd (.inl hp) h2
end
end Go.Proofs.YtaagfmnpeimakaaDoor.Cp
