/-
  Stage 16: contract of isConvinced.
-/
import Derived.Test.YtaagfmnpeimakaaDoorCp4
import Derived.RegionTactic
import Derived.StillTailTactics
import Derived.BigRegion
import Derived.Deep.QuietTactic
import Derived.BigQuiet
import Derived.Deep.DeepCutAuto
import Derived.Deep.RegionHeldLaw
namespace Go.Proofs.YtaagfmnpeimakaaDoor.Cp
open Go.RowKit
set_option maxRecDepth 100000
theorem ite_skip {b : Bool} {A B : Prop} (hb : b = false) (h : B) : (if b = true then A else B) := by subst hb; exact h
theorem put_skip {K : Act → Prop} {a : Act} {d : Option Nat} (he : a.put d undef = a) (h : K a) : K (a.put d undef) := by rw [he]; exact h
abbrev ConvPost (B : Nat) (w : World) (p : Pf) (r : Bool) : Ending → World → Prop := fun e w' => e = .returned (.bool r) ∧ Rg B w' { p with proved := r } ∧ Chg (One B) w w'
set_option maxHeartbeats 400000 in
theorem conv_yes (B : Nat) (p : Pf) (v : List UInt8) (w : World) (h : Rg B w p) (hp : p.proved = true) :
    Calls Tryd.prog 51 #[.pointer (some ⟨B, 0, none⟩), .string ⟨v.toArray⟩] w (ConvPost B w p true) := by
  have c3 := Arr.cell h 3 _ rfl
  have f3 := Arr.frozen h 3
  rw [hp] at c3
  have hlt := h.lt
  have HS : Hid (Rg B (w.drew.setCell ⟨B, 3, none⟩ (.bool true)) { p with proved := true }) := Lib.hid ((h.below (Below.refl w.heap.size w).drew).setProved true)
  have HC : Hid (Chg (One B) w (w.drew.setCell ⟨B, 3, none⟩ (.bool true))) := Lib.hid (chg_below (Below.refl w.heap.size w).drew (one_cell _ _ _ _))
  have g0 := Arr.cell HS.out 0 _ rfl
  have g1 := Arr.cell HS.out 1 _ rfl
  have g3 := Arr.cell HS.out 3 _ rfl
  have c0 := Arr.cell h 0 _ rfl
  have c1 := Arr.cell h 1 _ rfl
  clear h
  go_enter Tryd.func51, Tryd.ntmps51
  go_wp2_with fail
  go_region
  all_goals go_wp2_with fail
  all_goals go_ret
  all_goals exact ⟨rfl, HS.out, HC.out⟩
set_option maxHeartbeats 1600000 in
theorem conv_new (B : Nat) (p : Pf) (v : List UInt8) (w : World) (h : Rg B w p) (hp : p.proved = false) (he : p.expect.length ≤ 1000) (hc : p.challenge.length ≤ 1000) (T : Hid (Dg.Tab w)) :
    Calls Tryd.prog 51 #[.pointer (some ⟨B, 0, none⟩), .string ⟨v.toArray⟩] w (ConvPost B w p (decide (v = Prf.sum 1 p.expect p.challenge))) := by
  have H := Lib.hid h
  have CA := Lib.hid (Dg.chap_any 1 p.expect p.challenge w.drew (by omega) (Lib.hid (T.out.below (Below.refl w.heap.size w).drew)))
  have c0 := Arr.cell h 0 _ rfl
  have c1 := Arr.cell h 1 _ rfl
  have c3 := Arr.cell h 3 _ rfl
  rw [hp] at c3
  have hlt := h.lt
  unfold Prf.sum
  generalize Dig.md5 (Dig.parts 1 p.expect p.challenge) = D at *
  clear h he hc T
  by_cases hq : v = D
  · rw [decide_eq_true hq]
    subst hq
    go_enter Tryd.func51, Tryd.ntmps51
    go_wp2_with fail
    go_region_law (first | (go_simp; go_at_call 49; (refine CA.out.mono ?_); rintro e v1 ⟨rfl, hb⟩; have H1 := Lib.hid (H.out.below (w' := v1) ((Below.refl w.heap.size w).drew.trans hb)); have HB : Hid (Below w.heap.size w v1) := Lib.hid ((Below.refl w.heap.size w).drew.trans hb); have k3 : v1.cell? ⟨B, 3, none⟩ = some (.bool false) := (by have := Arr.cell H1.out 3 _ rfl; rwa [hp] at this); have f3 := Arr.frozen H1.out 3; have z1 := H1.out.lt; clear hb))
    all_goals go_wp2_with fail
    all_goals go_ret
    all_goals exact ⟨rfl, H1.out.setProved true, chg_below HB.out (one_cell _ _ _ _)⟩
  · rw [decide_eq_false hq]
    have q2 : (v == D) = false := by simpa using hq
    go_enter Tryd.func51, Tryd.ntmps51
    go_wp2_with fail
    go_region_law (first | (go_simp; go_at_call 49; (refine CA.out.mono ?_); rintro e v1 ⟨rfl, hb⟩; have H1 := Lib.hid (H.out.below (w' := v1) ((Below.refl w.heap.size w).drew.trans hb)); have HB : Hid (Below w.heap.size w v1) := Lib.hid ((Below.refl w.heap.size w).drew.trans hb); have k3 : v1.cell? ⟨B, 3, none⟩ = some (.bool false) := (by have := Arr.cell H1.out 3 _ rfl; rwa [hp] at this); have f3 := Arr.frozen H1.out 3; have z1 := H1.out.lt; clear hb))
    all_goals go_wp2_with fail
    all_goals go_ret
    all_goals exact ⟨rfl, H1.out.setProved false, chg_below HB.out (one_cell _ _ _ _)⟩
theorem conv_any (B : Nat) (p : Pf) (v : List UInt8) (w : World) (h : Rg B w p) (he : p.expect.length ≤ 1000) (hc : p.challenge.length ≤ 1000) (T : Hid (Dg.Tab w)) :
    Calls Tryd.prog 51 #[.pointer (some ⟨B, 0, none⟩), .string ⟨v.toArray⟩] w (ConvPost B w p (p.proved || decide (v = Prf.sum 1 p.expect p.challenge))) := by
  cases hp : p.proved
  · rw [Bool.false_or]
    exact conv_new B p v w h hp he hc T
  · rw [Bool.true_or]
    exact conv_yes B p v w h hp
end Go.Proofs.YtaagfmnpeimakaaDoor.Cp
