/-
  The walk of the law that any bytes are read as the document says.
-/
import Derived.Test.YtnkkompmdngkgaaR9
namespace Go.Proofs.Ytnkkompmdngkgaa.R
open Go.RowKit
set_option maxHeartbeats 1600000 in
theorem gets_walk (z m c : Int) (s X T D : ByteArray) (sl : Bool) (w : World) (hT : Hid (T = if sl then T else s))
    (M : Hid (sl = true → ∀ w, Calls Try.prog 15 #[.string s] w fun e w' => e = .returned (.string X) ∧ Below w.heap.size w w'))
    (U : Hid (sl = true → ∀ w, Calls Try.prog 14 #[.string X, .int .i64 m] w fun e w' => e = .returned (.string T) ∧ Below w.heap.size w w'))
    (P : Hid (∀ w, Calls Try.prog 16 #[.string T] w fun e w' => e = .returned (.tuple #[.agg #[.int .i64 z, .string D], .int .i64 c]) ∧ Below w.heap.size w w'))
    (G : Hid (∀ w, Calls Try.prog 17 #[.string T] w fun e w' => e = .returned (.tuple #[.agg #[.int .i64 z, .string D], .int .i64 c]) ∧ Below w.heap.size w w')) :
    Calls Try.prog 4 #[.string s, .bool sl, .int .i64 m] w fun e w' => e = .returned (.bool true) ∧ Below w.heap.size w w' := by
  cases sl
  · have h := hT.out
    simp at h
    subst h
    clear hT M U
    go_enter Try.func4, Try.ntmps4
    go_wp2_with fail
    refine (P.out _).mono ?_
    rintro e w1 ⟨rfl, hb1⟩
    have B1 := Lib.hid hb1
    clear hb1
    go_wp2_with fail
    refine (G.out _).mono ?_
    rintro e w2 ⟨rfl, hb2⟩
    have HS := Lib.hid (box_alloc (box_kept (w := w1) (x := .int .i64 z) (y := .string D) ⟨by simp, by simp, by simp, (Below.refl _ _).alloc (Nat.le_refl _) _⟩ hb2) (.cells #[.int .i64 z, .string D] 23))
    obtain ⟨k0, k1, hz, _⟩ := box_kept (w := w1) (x := .int .i64 z) (y := .string D) ⟨by simp, by simp, by simp, (Below.refl _ _).alloc (Nat.le_refl _) _⟩ hb2
    clear hb2
    go_wp2_with (first | (go_at_call 12; refine (num_any _ _).mono ?_; rintro e w9 ⟨rfl, rfl⟩) | (go_at_call 13; refine (awake_any _).mono ?_; rintro e w3 ⟨rfl, hb3⟩))
    go_ret
    exact ⟨rfl, bel2 (bel2 B1.out HS.out.2.2.2) hb3⟩
  · have M1 := Lib.hid (M.out rfl)
    have U1 := Lib.hid (U.out rfl)
    clear hT M U
    go_enter Try.func4, Try.ntmps4
    go_wp2_with fail
    refine (M1.out _).mono ?_
    rintro e v1 ⟨rfl, hv1⟩
    have A1 := Lib.hid hv1
    clear hv1
    go_wp2_with fail
    refine (U1.out _).mono ?_
    rintro e v2 ⟨rfl, hv2⟩
    have A2 := Lib.hid (bel2 A1.out hv2)
    clear hv2
    go_wp2_with fail
    refine (P.out _).mono ?_
    rintro e w1 ⟨rfl, hb1⟩
    have B1 := Lib.hid (bel2 A2.out hb1)
    clear hb1
    go_wp2_with fail
    refine (G.out _).mono ?_
    rintro e w2 ⟨rfl, hb2⟩
    have HS := Lib.hid (box_alloc (box_kept (w := w1) (x := .int .i64 z) (y := .string D) ⟨by simp, by simp, by simp, (Below.refl _ _).alloc (Nat.le_refl _) _⟩ hb2) (.cells #[.int .i64 z, .string D] 23))
    obtain ⟨k0, k1, hz, _⟩ := box_kept (w := w1) (x := .int .i64 z) (y := .string D) ⟨by simp, by simp, by simp, (Below.refl _ _).alloc (Nat.le_refl _) _⟩ hb2
    clear hb2
    go_wp2_with (first | (go_at_call 12; refine (num_any _ _).mono ?_; rintro e w9 ⟨rfl, rfl⟩) | (go_at_call 13; refine (awake_any _).mono ?_; rintro e w3 ⟨rfl, hb3⟩))
    go_ret
    exact ⟨rfl, bel2 (bel2 B1.out HS.out.2.2.2) hb3⟩
theorem walk_gets (s : ByteArray) (sl : Bool) (m : Int) (w : World) (hs : s.size ≤ 1048576) (_wm : (Lit.int .i64 m).wf = true) :
    Calls Try.prog 4 #[.string s, .bool sl, .int .i64 m] w fun e w' => e = .returned (.bool true) ∧ Below w.heap.size w w' := by
  obtain ⟨l, rfl⟩ : ∃ l : List UInt8, s = ⟨l.toArray⟩ := ⟨s.data.toList, by simp⟩
  rw [sz] at hs
  have hp := Stf.put_length m (Crc.put l)
  rw [Crc.put_length] at hp
  cases sl
  · exact gets_walk _ m _ _ ⟨(Crc.put l).toArray⟩ ⟨l.toArray⟩ _ false w (Lib.hid rfl) (Lib.hid fun h => by cases h) (Lib.hid fun h => by cases h) (Lib.hid fun w => fget_any l w (by omega)) (Lib.hid fun w => unframe_any l w (by omega))
  · exact gets_walk _ m _ _ ⟨(Crc.put l).toArray⟩ ⟨(Stf.put m (Crc.put l)).toArray⟩ _ true w (Lib.hid rfl) (Lib.hid fun _ w => F.sum_list l w (by rw [sz]; unfold maxLen; omega)) (Lib.hid fun _ w => S.stuff_list _ m w (by rw [Crc.put_length]; omega)) (Lib.hid fun w => fget_any _ w (by omega)) (Lib.hid fun w => unframe_any _ w (by omega))
end Go.Proofs.Ytnkkompmdngkgaa.R
