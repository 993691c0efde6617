/-
  The walk of the law that any frame stands as the document says.
-/
import Derived.Test.YtnkkompmdngkgaaR9
namespace Go.Proofs.Ytnkkompmdngkgaa.R
open Go.RowKit
set_option maxHeartbeats 800000 in
theorem puts_walk (z m c : Int) (s U : ByteArray) (w : World)
    (P : Hid (∀ w, Calls Try.prog 10 #[.agg #[.int .i64 z, .string s], .int .i64 m] w fun e w' => e = .returned (.tuple #[.string U, .int .i64 c]) ∧ Below w.heap.size w w'))
    (G : Hid (∀ w, Calls Try.prog 11 #[.agg #[.int .i64 z, .string s], .int .i64 m] w fun e w' => e = .returned (.tuple #[.string U, .int .i64 c]) ∧ Below w.heap.size w w')) :
    Calls Try.prog 3 #[.agg #[.int .i64 z, .string s], .int .i64 m] w fun e w' => e = .returned (.bool true) ∧ Below w.heap.size w w' := by
  go_enter Try.func3, Try.ntmps3
  go_wp2_with fail
  refine (P.out _).mono ?_
  rintro e w1 ⟨rfl, hb1⟩
  have HS := Lib.hid (box_kept (w := w) (x := .int .i64 z) (y := .string s) ⟨by simp, by simp, by simp, (Below.refl _ _).alloc (Nat.le_refl _) _⟩ hb1)
  clear hb1
  have k0 := HS.out.1
  have k1 := HS.out.2.1
  go_wp2_with fail
  refine (G.out _).mono ?_
  rintro e w2 ⟨rfl, hb2⟩
  have HS2 := Lib.hid (box_kept HS.out hb2)
  clear hb2 k0 k1
  go_wp2_with (first | (go_at_call 12; refine (num_any _ _).mono ?_; rintro e w9 ⟨rfl, rfl⟩) | (go_at_call 13; refine (awake_any _).mono ?_; rintro e w3 ⟨rfl, hb3⟩))
  go_ret
  exact ⟨rfl, HS2.out.2.2.2.trans (hb3.mono (Nat.le_of_lt HS2.out.2.2.1))⟩
theorem walk_puts (z : Int) (s : ByteArray) (m : Int) (w : World) (_wz : (Lit.int .i64 z).wf = true) (hs : s.size ≤ maxLen) (_wm : (Lit.int .i64 m).wf = true) :
    Calls Try.prog 3 #[.agg #[.int .i64 z, .string s], .int .i64 m] w fun e w' => e = .returned (.bool true) ∧ Below w.heap.size w w' := by
  obtain ⟨l, rfl⟩ : ∃ l : List UInt8, s = ⟨l.toArray⟩ := ⟨s.data.toList, by simp⟩
  rw [sz] at hs
  exact puts_walk z m _ _ _ w (Lib.hid fun w => fput_any z l m w hs) (Lib.hid fun w => frame_any z l m w hs)
end Go.Proofs.Ytnkkompmdngkgaa.R
