/-
  Contract of the document's own Frame.
-/
import Derived.Test.YtnkkompmdngkgaaR2
namespace Go.Proofs.Ytnkkompmdngkgaa.R
open Go.RowKit
set_option maxHeartbeats 1600000 in
theorem frame_good_walk (z : Int) (l T A B X Y Z U : List UInt8) (m : Int) (w : World) (hl : l.length ≤ 2048)
    (J : Hid (∀ w, Calls Try.prog 24 #[.int .i64 z] w fun e w' => e = .returned (.bool true) ∧ w = w'))
    (F : Hid (∀ w, Calls Try.prog 25 #[.int .i64 z] w fun e w' => e = .returned (.string ⟨T.toArray⟩) ∧ Below w.heap.size w w'))
    (P : Hid (∀ w, Calls Try.prog 15 #[.string ⟨B.toArray⟩] w fun e w' => e = .returned (.string ⟨X.toArray⟩) ∧ Below w.heap.size w w'))
    (S : Hid (∀ w, Calls Try.prog 14 #[.string ⟨X.toArray⟩, .int .i64 m] w fun e w' => e = .returned (.string ⟨Y.toArray⟩) ∧ Below w.heap.size w w'))
    (r1 : Sums [255, 3] T A) (r2 : Sums A l B) (r3 : Sums [126] Y Z) (r4 : Sums Z [126] U) :
    Calls Try.prog 11 #[.agg #[.int .i64 z, .string ⟨l.toArray⟩], .int .i64 m] w fun e w' => e = .returned (.tuple #[.string { data := U.toArray }, .int .i64 0]) ∧ Below w.heap.size w w' := by
  unfold Sums at r1 r2 r3 r4
  go_enter Try.func11, Try.ntmps11
  go_wp2_with fail
  refine (J.out _).mono ?_
  rintro e w1 ⟨rfl, rfl⟩
  have HS := Lib.hid (box_kept (w := w) (x := .int .i64 z) (y := .string ⟨l.toArray⟩) ⟨by simp, by simp, by simp, (Below.refl _ _).alloc (Nat.le_refl _) _⟩ (Below.refl _ (w.alloc (.cells #[.int .i64 z, .string ⟨l.toArray⟩] 23))))
  go_wp2_with fail
  go_region_held3 (fun a => a.cell? ⟨w.heap.size, 0, none⟩ = some (.int .i64 z) ∧ a.cell? ⟨w.heap.size, 1, none⟩ = some (.string ⟨l.toArray⟩) ∧ w.heap.size < a.heap.size ∧ Below w.heap.size w a) (first | exact box_drew HS.out | exact box_kept (by assumption) hb2)
    (first | (go_at_call 25; refine (F.out _).mono ?_; rintro e w2 ⟨rfl, hb2⟩) | (go_at_call 15; refine (P.out _).mono ?_; rintro e w2 ⟨rfl, hb2⟩) | (go_at_call 14; refine (S.out _).mono ?_; rintro e w2 ⟨rfl, hb2⟩))
  rename_i hH
  have HB := Lib.hid hH
  clear hH
  go_wp2_with fail
  go_ret2
  exact ⟨rfl, HB.out.2.2.2⟩
theorem frame_good_any (n : Nat) (l : List UInt8) (m : Int) (w : World) (hg : Frm.good n = true) (hl : l.length ≤ 2048) :
    Calls Try.prog 11 #[.agg #[.int .i64 n, .string ⟨l.toArray⟩], .int .i64 m] w fun e w' => e = .returned (.tuple #[.string ⟨([126] ++ Frm.wire m n l ++ [126]).toArray⟩, .int .i64 0]) ∧ Below w.heap.size w w' := by
  have hw := Frm.wire_length m n l
  have hb := Frm.body_length n l
  have ht : (Frm.two n).length = 2 := rfl
  obtain ⟨k, e, _, hk, _, _⟩ := Frm.good_nat _ hg
  have hz : n < 65536 := by omega
  have J := fun w => protoMay_any n w
  rw [hg] at J
  exact frame_good_walk n l (Frm.two n) ([255, 3] ++ Frm.two n) (Frm.body n l) (Crc.put (Frm.body n l)) (Frm.wire m n l) _ _ m w hl
    (Lib.hid J) (Lib.hid fun w => two_any n w hz) (Lib.hid fun w => F.sum_list _ w (by rw [sz]; unfold maxLen; omega)) (Lib.hid fun w => S.stuff_list _ m w (by rw [Crc.put_length]; omega))
    (sums _ _ (by simp) (by omega)) (sums _ _ (by simp; omega) (by omega)) (sums _ _ (by simp) (by omega)) (sums _ _ (by simp; omega) (by simp))
set_option maxHeartbeats 400000 in
theorem frame_bad_any (z : Int) (s : ByteArray) (m : Int) (w : World) (hs : s.size ≤ maxLen) (hc : Frm.code z s.size ≠ 0) :
    Calls Try.prog 11 #[.agg #[.int .i64 z, .string s], .int .i64 m] w fun e w' => e = .returned (.tuple #[.string ⟨#[]⟩, .int .i64 (Frm.code z s.size)]) ∧ Below w.heap.size w w' := by
  have J := fun w => protoMay_any z w
  unfold maxLen at hs
  rcases Frm.code_ways z s.size with ⟨h1, h2⟩ | ⟨h1, h3, h2⟩ | ⟨h1, h3, h2⟩
  · rw [h2]
    rw [h1] at J
    have J := Lib.hid J
    clear h1 h2 hc
    go_enter Try.func11, Try.ntmps11
    go_wp2_with fail
    refine (J.out _).mono ?_
    rintro e w1 ⟨rfl, rfl⟩
    go_wp2_with fail
    go_ret2
    exact ⟨rfl, (Below.refl _ w).alloc (Nat.le_refl _) _⟩
  · rw [h2]
    rw [h1] at J
    have J := Lib.hid J
    clear h1 h2 hc
    go_enter Try.func11, Try.ntmps11
    go_wp2_with fail
    refine (J.out _).mono ?_
    rintro e w1 ⟨rfl, rfl⟩
    go_wp2_with fail
    go_ret2
    exact ⟨rfl, (Below.refl _ w).alloc (Nat.le_refl _) _⟩
  · exact absurd h2 hc
/-- The contract of the document's own Frame. -/
theorem frame_any (z : Int) (l : List UInt8) (m : Int) (w : World) (hs : l.length ≤ maxLen) :
    Calls Try.prog 11 #[.agg #[.int .i64 z, .string ⟨l.toArray⟩], .int .i64 m] w fun e w' => e = .returned (.tuple #[.string ⟨(Frm.put z l m).1.toArray⟩, .int .i64 (Frm.put z l m).2]) ∧ Below w.heap.size w w' := by
  have hs2 : (ByteArray.mk l.toArray).size ≤ maxLen := by rw [sz]; exact hs
  by_cases hc : Frm.code z l.length = 0
  · rw [Frm.put_good _ _ _ hc]
    rcases Frm.code_ways z l.length with ⟨h1, h2⟩ | ⟨h1, h3, h2⟩ | ⟨h1, h3, h2⟩
    · omega
    · omega
    · obtain ⟨n, rfl, _⟩ := Frm.good_nat _ h1
      exact frame_good_any n l m w h1 h3
  · rw [Frm.put_bad _ _ _ hc]
    have := frame_bad_any z ⟨l.toArray⟩ m w hs2 (by rw [sz]; exact hc)
    rwa [sz] at this
end Go.Proofs.Ytnkkompmdngkgaa.R
