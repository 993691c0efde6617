/-
  Stage 16: contracts of the program's answer, of what it makes of a response.
-/
import Derived.Test.YtaagfmnpeimakaaDoorCp1
import Derived.StillTailTactics
import Derived.BigRegion
import Derived.Deep.QuietTactic
import Derived.BigQuiet
import Derived.Deep.DeepCutAuto
import Derived.Deep.RegionHeldLaw
namespace Go.Proofs.YtaagfmnpeimakaaDoor.Cp
open Go.RowKit
set_option maxRecDepth 100000
/-- A slice of at most one message, which lies in a block of its own from 'n' on. -/
def Out (n : Nat) (W : World) (v : Value) (ms : List Prf.Msg) : Prop :=
  (ms = [] ∧ v = .slice none 0 0) ∨ ∃ g m, ms = [m] ∧ v = .slice (some ⟨g, 0, none⟩) 1 1 ∧ n ≤ g ∧ Arr g W (mcs m)
theorem Out.nil (n : Nat) (W : World) : Out n W (.slice none 0 0) [] := .inl ⟨rfl, rfl⟩
theorem Out.chg {n : Nat} {S : Nat → Prop} {W W' : World} {v : Value} {ms : List Prf.Msg} (h : Out n W v ms) (k : Chg S W W') (hs : ∀ g, n ≤ g → ¬ S g) : Out n W' v ms := by
  rcases h with h | ⟨g, m, h1, h2, h3, h4⟩
  · exact .inl h
  · exact .inr ⟨g, m, h1, h2, h3, h4.chg k (hs g h3)⟩
theorem Out.below {n : Nat} {W W' : World} {v : Value} {ms : List Prf.Msg} (h : Out n W v ms) (k : Below W.heap.size W W') : Out n W' v ms := h.chg (S := fun _ => False) (Chg.of_below k) fun _ _ => id
theorem Out.mono {n k : Nat} {W : World} {v : Value} {ms : List Prf.Msg} (h : Out n W v ms) (hk : k ≤ n) : Out k W v ms := by
  rcases h with h | ⟨g, m, h1, h2, h3, h4⟩
  · exact .inl h
  · exact .inr ⟨g, m, h1, h2, Nat.le_trans hk h3, h4⟩
theorem Out.lit {n : Nat} {W : World} (hn : n ≤ W.heap.size) (m : Prf.Msg) (t : Array Value) (ht : t = (mcs m).toArray) : Out n (W.alloc (.cells t 33)) (.slice (some ⟨W.heap.size, 0, none⟩) 1 1) [m] := by
  subst ht
  exact .inr ⟨_, m, rfl, rfl, hn, Arr.new W (mcs m) _⟩
theorem answer_any (B : Nat) (p : Pf) (i : Int) (c : List UInt8) (w : World) (h : Rg B w p) (hs : p.secret.length ≤ 1000) (hc : c.length ≤ 1000000) (T : Hid (Dg.Tab w)) :
    Calls Tryd.prog 44 #[.pointer (some ⟨B, 4, none⟩), .int .i64 i, .string ⟨c.toArray⟩] w fun e w' => e = .returned (.string ⟨(Prf.sum i p.secret c).toArray⟩) ∧ Below w.heap.size w w' := by
  have CA := Lib.hid (Dg.chap_any i p.secret c w (by omega) T)
  have c4 := Arr.cell h 4 _ rfl
  have hlt := h.lt
  unfold Prf.sum
  generalize Dig.md5 (Dig.parts i p.secret c) = D at *
  clear h hs hc T
  go_enter Tryd.func44, Tryd.ntmps44
  go_wp2_with (go_at_call 49; (refine CA.out.mono ?_); rintro e v1 ⟨rfl, hb⟩; have HB := Lib.hid hb; clear hb)
  go_ret
  exact ⟨rfl, HB.out⟩
theorem awaits_any (B : Nat) (p : Pf) (i : Int) (w : World) (h : Rg B w p) :
    Calls Tryd.prog 50 #[.pointer (some ⟨B, 0, none⟩), .int .i64 i] w fun e w' => e = .returned (.bool (!p.challenge.isEmpty && i == 1)) ∧ w = w' := by
  have IS := Lib.hid (isStarted_any B p w h)
  clear h
  generalize p.challenge.isEmpty = b at *
  cases b
  · rw [show (!false) = true from rfl] at IS
    rw [show (!false && i == 1) = (i == 1) from rfl]
    go_enter Tryd.func50, Tryd.ntmps50
    go_wp2_with (go_at_call 28; (refine IS.out.mono ?_); rintro e v1 ⟨rfl, rfl⟩)
    go_ret
    exact ⟨rfl, rfl⟩
  · rw [show (!true) = false from rfl] at IS
    rw [show (!true && i == 1) = false from rfl]
    go_enter Tryd.func50, Tryd.ntmps50
    go_wp2_with (go_at_call 28; (refine IS.out.mono ?_); rintro e v1 ⟨rfl, rfl⟩)
    go_ret
    exact ⟨rfl, rfl⟩
end Go.Proofs.YtaagfmnpeimakaaDoor.Cp
