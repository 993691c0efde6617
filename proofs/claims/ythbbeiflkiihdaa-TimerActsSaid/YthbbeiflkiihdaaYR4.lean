/-
  The document's own timers: a time set.
-/
import Derived.Test.YthbbeiflkiihdaaYR3
namespace Go.Proofs.Ythbbeiflkiihdaa.Y
open Go.RowKit
set_option maxHeartbeats 800000 in
theorem rset_form (B : Nat) (v : Value) (S : List Tim.T) (id t : Int) (w : World) (h : Rm B v w S) (hf : id < 0 ∨ t < 0) :
    Calls Try.prog 7 #[.pointer (some ⟨B, 0, none⟩), .int .i64 id, .int .i64 t] w (RefPost B v w (S, 1100)) := by
  have HP : Hid (RefPost B v w (S, 1100) (.returned (.int .i64 1100)) w) := Lib.hid ⟨rfl, v, h, Mv.refl _ _ _⟩
  clear h
  by_cases h1 : id < 0
  · clear hf
    go_enter Try.func7, Try.ntmps7
    go_wp2_with fail
    go_ret
    exact HP.out
  · have h2 : t < 0 := by omega
    clear hf
    go_enter Try.func7, Try.ntmps7
    go_wp2_with fail
    go_ret
    exact HP.out
set_option maxHeartbeats 1600000 in
theorem rset_full (B : Nat) (v : Value) (S : List Tim.T) (id t : Int) (w : World) (h : Rm B v w S) (h1 : ¬id < 0) (h2 : ¬t < 0) (hh : Tim.has S id = false) (hl : 256 ≤ S.length) :
    Calls Try.prog 7 #[.pointer (some ⟨B, 0, none⟩), .int .i64 id, .int .i64 t] w (RefPost B v w (S, 1102)) := by
  have H := Lib.hid h
  obtain ⟨p, cap, rfl⟩ := h.rf.form
  have HP := place_any B _ S id w h.rf h.ok.few
  rw [Tim.spot_none id S 0 hh] at HP
  have HP := Lib.hid HP
  clear h hh
  go_enter Try.func7, Try.ntmps7
  go_wp2_with fail
  refine HP.out.mono ?_
  unfold spotI
  rintro e w1 ⟨rfl, hb⟩
  have HR := Lib.hid (H.out.below hb)
  have HB := Lib.hid hb
  have c0 := HR.out.rf.box.cell 0 _ rfl
  have q0 : decide ((256 : Int) ≤ (S.length : Int)) = true := decide_eq_true (by omega)
  clear hb HP
  go_wp2_with fail
  go_ret
  exact ⟨rfl, _, HR.out, Mv.of_below HB.out B _⟩
end Go.Proofs.Ythbbeiflkiihdaa.Y
