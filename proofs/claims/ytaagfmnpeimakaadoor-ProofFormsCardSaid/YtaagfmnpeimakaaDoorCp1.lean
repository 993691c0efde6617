/-
  Stage 16: the program's side in its block; contracts of its small methods.
-/
import Derived.Test.YtaagfmnpeimakaaDoorCpMath
import Derived.Test.YtaagfmnpeimakaaDoorMid
import Derived.Test.YtaagfmnpeimakaaDoorText
import Derived.Test.YtaagfmnpeimakaaDoorClone
import Derived.Test.YtaagfmnpeimakaaDoorDg7
namespace Go.Proofs.YtaagfmnpeimakaaDoor.Cp
open Go.RowKit
set_option maxRecDepth 100000
abbrev Pf := Prf.Pf
def pcs (p : Pf) : List Value := [.string ⟨p.expect.toArray⟩, .string ⟨p.challenge.toArray⟩, .int .i64 p.left, .bool p.proved, .string ⟨p.secret.toArray⟩, .bool p.taken, .string ⟨p.name.toArray⟩, .bool p.failed]
/-- Block 'B' holds this side. -/
def Rg (B : Nat) (w : World) (p : Pf) : Prop := Arr B w (pcs p)
theorem Rg.lt {B : Nat} {w : World} {p : Pf} (h : Rg B w p) : B < w.heap.size := Arr.lt h
theorem Rg.below {B : Nat} {w w' : World} {p : Pf} (h : Rg B w p) (k : Below w.heap.size w w') : Rg B w' p := Arr.below h k
theorem Rg.chg {B : Nat} {S : Nat → Prop} {w w' : World} {p : Pf} (h : Rg B w p) (k : Chg S w w') (hne : ¬ S B) : Rg B w' p := Arr.chg h k hne
theorem Rg.setChallenge {B : Nat} {w : World} {p : Pf} (h : Rg B w p) (c : List UInt8) : Rg B (w.setCell ⟨B, 1, none⟩ (.string ⟨c.toArray⟩)) { p with challenge := c } := Arr.set h 1 _
theorem Rg.setLeft {B : Nat} {w : World} {p : Pf} (h : Rg B w p) (x : Int) : Rg B (w.setCell ⟨B, 2, none⟩ (.int .i64 x)) { p with left := x } := Arr.set h 2 _
theorem Rg.setProved {B : Nat} {w : World} {p : Pf} (h : Rg B w p) (x : Bool) : Rg B (w.setCell ⟨B, 3, none⟩ (.bool x)) { p with proved := x } := Arr.set h 3 _
theorem Rg.setTaken {B : Nat} {w : World} {p : Pf} (h : Rg B w p) (x : Bool) : Rg B (w.setCell ⟨B, 5, none⟩ (.bool x)) { p with taken := x } := Arr.set h 5 _
theorem Rg.setFailed {B : Nat} {w : World} {p : Pf} (h : Rg B w p) (x : Bool) : Rg B (w.setCell ⟨B, 7, none⟩ (.bool x)) { p with failed := x } := Arr.set h 7 _
abbrev One (B : Nat) (k : Nat) : Prop := k = B
theorem one_cell (w : World) (B o : Nat) (u : Value) : Chg (One B) w (w.setCell ⟨B, o, none⟩ u) := Chg.of_grown (grown_cell w ⟨B, o, none⟩ u) fun _ e => .inr (Option.some.inj e).symm
theorem chg_below {S : Nat → Prop} {a b c : World} (h : Below a.heap.size a b) (k : Chg S b c) : Chg S a c := (Chg.of_below h).trans k
theorem chg_then {S : Nat → Prop} {a b c : World} (h : Chg S a b) (k : Below b.heap.size b c) : Chg S a c := h.trans (Chg.of_below k)
/-- A message as a value. -/
def mcs (m : Prf.Msg) : List Value := [.int .i64 m.1, .int .i64 m.2.1, .string ⟨m.2.2.1.toArray⟩, .string ⟨m.2.2.2.toArray⟩]
abbrev mv (m : Prf.Msg) : Value := .agg #[.int .i64 m.1, .int .i64 m.2.1, .string ⟨m.2.2.1.toArray⟩, .string ⟨m.2.2.2.toArray⟩]
theorem infoC : (Tryd.prog.info? 33).map (·.size) = some 4 := by kernel_rfl
theorem one_mcs (m : Prf.Msg) : ∀ v ∈ mcs m, v.oneCell' = true := by
  intro v hv
  simp [mcs] at hv
  rcases hv with rfl | rfl | rfl | rfl <;> rfl
theorem empty_text (l : List UInt8) : ByteArray.toList ⟨l.toArray⟩ = l := by rw [ByteArray.toList_eq]
theorem isStarted_any (B : Nat) (p : Pf) (w : World) (h : Rg B w p) : Calls Tryd.prog 28 #[.pointer (some ⟨B, 0, none⟩)] w fun e w' => e = .returned (.bool (!p.challenge.isEmpty)) ∧ w = w' := by
  have c1 := Arr.cell h 1 _ rfl
  have hlt := h.lt
  have e := empty_text p.challenge
  rw [← e]
  generalize ByteArray.mk p.challenge.toArray = D at *
  clear h
  go_enter Tryd.func28, Tryd.ntmps28
  go_wp2_with fail
  go_ret
  exact ⟨by rw [e]; rfl, rfl⟩
theorem start_any (B : Nat) (p : Pf) (c : List UInt8) (w : World) (h : Rg B w p) (hc : c.length ≤ 1000) : Calls Tryd.prog 29 #[.pointer (some ⟨B, 0, none⟩), .string ⟨c.toArray⟩] w fun e w' => e = .returned (.tuple #[]) ∧ Rg B w' { p with challenge := c } ∧ Chg (One B) w w' := by
  have H := Lib.hid h
  have CA := Lib.hid (clone_any ⟨c.toArray⟩ w (by rw [sz]; omega))
  clear h
  go_enter Tryd.func29, Tryd.ntmps29
  go_wp2_with (go_at_call 25; (refine CA.out.mono ?_); rintro e v1 ⟨rfl, hb⟩; have H1 := Lib.hid (H.out.below hb); have HB := Lib.hid hb; have c1 := Arr.cell H1.out 1 _ rfl; have f1 := Arr.frozen H1.out 1; have hlt := H1.out.lt; clear hb)
  go_end0
  exact ⟨rfl, H1.out.setChallenge c, chg_below HB.out (one_cell _ _ _ _)⟩
theorem spend_any (B : Nat) (p : Pf) (w : World) (h : Rg B w p) (hl : -1000 ≤ p.left ∧ p.left ≤ 1000) : Calls Tryd.prog 32 #[.pointer (some ⟨B, 0, none⟩)] w fun e w' => e = .returned (.tuple #[]) ∧ Rg B w' { p with left := p.left - 1 } ∧ Chg (One B) w w' := by
  have H := Lib.hid h
  have c2 := Arr.cell h 2 _ rfl
  have f2 := Arr.frozen h 2
  have hlt := h.lt
  have hs := Lib.hid (h.setLeft (p.left - 1))
  clear h
  generalize p.left = z at *
  have q : wrap64 (z - 1) = z - 1 := IntWalk.wrap64_in _ ⟨by omega, by omega⟩
  go_enter Tryd.func32, Tryd.ntmps32
  go_wp2_with fail
  go_end0
  exact ⟨rfl, hs.out, one_cell _ _ _ _⟩
theorem isSpent_any (B : Nat) (p : Pf) (w : World) (h : Rg B w p) : Calls Tryd.prog 33 #[.pointer (some ⟨B, 0, none⟩)] w fun e w' => e = .returned (.bool (decide (p.left ≤ 0))) ∧ w = w' := by
  have c2 := Arr.cell h 2 _ rfl
  have hlt := h.lt
  clear h
  go_enter Tryd.func33, Tryd.ntmps33
  go_wp2_with fail
  go_ret
  exact ⟨rfl, rfl⟩
theorem maySecret_any (s : List UInt8) (w : World) (hs : s.length ≤ 4611686018427387904) : Calls Tryd.prog 24 #[.string ⟨s.toArray⟩] w fun e w' => e = .returned (.bool (Prf.fits s)) ∧ w = w' := by
  unfold Prf.fits
  rw [← sz s] at hs ⊢
  generalize ByteArray.mk s.toArray = D at *
  by_cases h1 : 1 ≤ D.size
  · have q1 : (1 : Int) ≤ (D.size : Int) := by omega
    by_cases h2 : D.size ≤ 64
    · have q2 : (D.size : Int) ≤ 64 := by omega
      go_enter Tryd.func24, Tryd.ntmps24
      go_wp2_with fail
      go_ret
      exact ⟨by simp; omega, rfl⟩
    · have q2 : ¬ (D.size : Int) ≤ 64 := by omega
      go_enter Tryd.func24, Tryd.ntmps24
      go_wp2_with fail
      go_ret
      exact ⟨by simp, rfl⟩
  · have q1 : ¬ (1 : Int) ≤ (D.size : Int) := by omega
    go_enter Tryd.func24, Tryd.ntmps24
    go_wp2_with fail
    go_ret
    exact ⟨by simp, rfl⟩
theorem mayChallenge_any (s : List UInt8) (w : World) (hs : s.length ≤ 4611686018427387904) : Calls Tryd.prog 27 #[.string ⟨s.toArray⟩] w fun e w' => e = .returned (.bool (Prf.mayCh s)) ∧ w = w' := by
  unfold Prf.mayCh
  rw [← sz s] at hs ⊢
  generalize ByteArray.mk s.toArray = D at *
  by_cases h1 : 1 ≤ D.size
  · have q1 : (1 : Int) ≤ (D.size : Int) := by omega
    by_cases h2 : D.size ≤ 255
    · have q2 : (D.size : Int) ≤ 255 := by omega
      go_enter Tryd.func27, Tryd.ntmps27
      go_wp2_with fail
      go_ret
      exact ⟨by simp; omega, rfl⟩
    · have q2 : ¬ (D.size : Int) ≤ 255 := by omega
      go_enter Tryd.func27, Tryd.ntmps27
      go_wp2_with fail
      go_ret
      exact ⟨by simp, rfl⟩
  · have q1 : ¬ (1 : Int) ≤ (D.size : Int) := by omega
    go_enter Tryd.func27, Tryd.ntmps27
    go_wp2_with fail
    go_ret
    exact ⟨by simp, rfl⟩
theorem proved_any (B : Nat) (p : Pf) (w : World) (h : Rg B w p) : Calls Tryd.prog 20 #[.pointer (some ⟨B, 0, none⟩)] w fun e w' => e = .returned (.bool p.proved) ∧ w = w' := by
  have c := Arr.cell h 3 _ rfl
  have hlt := h.lt
  clear h
  go_enter Tryd.func20, Tryd.ntmps20
  go_wp2_with fail
  go_ret
  exact ⟨rfl, rfl⟩
theorem taken_any (B : Nat) (p : Pf) (w : World) (h : Rg B w p) : Calls Tryd.prog 21 #[.pointer (some ⟨B, 0, none⟩)] w fun e w' => e = .returned (.bool p.taken) ∧ w = w' := by
  have c := Arr.cell h 5 _ rfl
  have hlt := h.lt
  clear h
  go_enter Tryd.func21, Tryd.ntmps21
  go_wp2_with fail
  go_ret
  exact ⟨rfl, rfl⟩
theorem failed_any (B : Nat) (p : Pf) (w : World) (h : Rg B w p) : Calls Tryd.prog 22 #[.pointer (some ⟨B, 0, none⟩)] w fun e w' => e = .returned (.bool p.failed) ∧ w = w' := by
  have c := Arr.cell h 7 _ rfl
  have hlt := h.lt
  clear h
  go_enter Tryd.func22, Tryd.ntmps22
  go_wp2_with fail
  go_ret
  exact ⟨rfl, rfl⟩
end Go.Proofs.YtaagfmnpeimakaaDoor.Cp
