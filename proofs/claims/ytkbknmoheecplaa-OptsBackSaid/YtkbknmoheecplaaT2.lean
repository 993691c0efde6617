/-
  The walk of the law of options that come back.
-/
import Derived.Test.YtkbknmoheecplaaO9
import Derived.Test.YtkbknmoheecplaaSameO
namespace Go.Proofs.Ytkbknmoheecplaa.O
open Go.RowKit
set_option maxHeartbeats 800000 in
theorem back_bad_bad (va : Value) (T s : ByteArray) (m : Nat) (c g : Int) (w : World) (hc : c ≠ 0) (hg : g ≠ 0) (hm : m = 0)
    (P : Hid (∀ W : World, Below w.heap.size w W → Calls Try.prog 8 #[va] W fun e w' => e = .returned (.tuple #[.string T, .int .i64 c]) ∧ Below W.heap.size W w'))
    (G2 : Hid (∀ W : World, Calls Try.prog 10 #[.string s] W fun e w' => ∃ p cap, e = .returned (.tuple #[.slice p m cap, .int .i64 g]) ∧ Below W.heap.size W w' ∧
      (g = 0 → Calls Try.prog 8 #[.slice p m cap] w' fun e w2 => e = .returned (.tuple #[.string s, .int .i64 0]) ∧ Below w'.heap.size w' w2))) :
    Calls Try.prog 4 #[va, .string s] w fun e w' => e = .returned (.bool true) ∧ Below w.heap.size w w' := by
  have q1 : (c == 0) = false := by rw [beq_eq_false_iff_ne]; exact hc
  clear hc
  have q2 : (g != 0) = true := by rw [bne_iff_ne]; exact hg
  clear hg
  subst hm
  go_enter Try.func4, Try.ntmps4
  go_wp2_with fail
  refine (awake_any _).mono ?_
  rintro e w1 ⟨rfl, hb1⟩
  have B1 := Lib.hid hb1
  clear hb1
  go_wp2_with fail
  refine (P.out _ B1.out).mono ?_
  rintro e w2 ⟨rfl, hb2⟩
  have B2 := Lib.hid (bel2 B1.out hb2)
  clear hb2
  go_wp2_with (go_at_call 12; refine (num_any _ _).mono ?_; rintro e w9 ⟨rfl, rfl⟩)
  refine (G2.out _).mono ?_
  rintro e w5 ⟨p5, cap5, rfl, hb5, hs5⟩
  have B5 := Lib.hid (bel2 B2.out hb5)
  clear hb5
  clear hs5
  go_wp2_with (go_at_call 12; refine (num_any _ _).mono ?_; rintro e w9 ⟨rfl, rfl⟩)
  go_ret
  exact ⟨rfl, B5.out⟩
set_option maxHeartbeats 800000 in
theorem back_bad_ok (va : Value) (T s : ByteArray) (m : Nat) (c g : Int) (w : World) (hc : c ≠ 0) (hg : g = 0) 
    (P : Hid (∀ W : World, Below w.heap.size w W → Calls Try.prog 8 #[va] W fun e w' => e = .returned (.tuple #[.string T, .int .i64 c]) ∧ Below W.heap.size W w'))
    (G2 : Hid (∀ W : World, Calls Try.prog 10 #[.string s] W fun e w' => ∃ p cap, e = .returned (.tuple #[.slice p m cap, .int .i64 g]) ∧ Below W.heap.size W w' ∧
      (g = 0 → Calls Try.prog 8 #[.slice p m cap] w' fun e w2 => e = .returned (.tuple #[.string s, .int .i64 0]) ∧ Below w'.heap.size w' w2))) :
    Calls Try.prog 4 #[va, .string s] w fun e w' => e = .returned (.bool true) ∧ Below w.heap.size w w' := by
  have q1 : (c == 0) = false := by rw [beq_eq_false_iff_ne]; exact hc
  clear hc
  subst hg
  go_enter Try.func4, Try.ntmps4
  go_wp2_with fail
  refine (awake_any _).mono ?_
  rintro e w1 ⟨rfl, hb1⟩
  have B1 := Lib.hid hb1
  clear hb1
  go_wp2_with fail
  refine (P.out _ B1.out).mono ?_
  rintro e w2 ⟨rfl, hb2⟩
  have B2 := Lib.hid (bel2 B1.out hb2)
  clear hb2
  go_wp2_with (go_at_call 12; refine (num_any _ _).mono ?_; rintro e w9 ⟨rfl, rfl⟩)
  refine (G2.out _).mono ?_
  rintro e w5 ⟨p5, cap5, rfl, hb5, hs5⟩
  have B5 := Lib.hid (bel2 B2.out hb5)
  clear hb5
  have S5 := Lib.hid (hs5 (by simp))
  clear hs5
  go_wp2_with (go_at_call 12; refine (num_any _ _).mono ?_; rintro e w9 ⟨rfl, rfl⟩)
  refine S5.out.mono ?_
  rintro e w6 ⟨rfl, hb6⟩
  have B6 := Lib.hid (bel2 B5.out hb6)
  clear hb6
  go_wp2_with (go_at_call 12; refine (num_any _ _).mono ?_; rintro e w9 ⟨rfl, rfl⟩)
  go_ret
  exact ⟨rfl, B6.out⟩
set_option maxHeartbeats 800000 in
theorem back_ok_bad (va : Value) (T s : ByteArray) (n m : Nat) (c g : Int) (w : World) (hc : c = 0) (hg : g ≠ 0) (hm : m = 0)
    (P : Hid (∀ W : World, Below w.heap.size w W → Calls Try.prog 8 #[va] W fun e w' => e = .returned (.tuple #[.string T, .int .i64 c]) ∧ Below W.heap.size W w'))
    (G : Hid (c = 0 → ∀ W : World, Below w.heap.size w W → Calls Try.prog 10 #[.string T] W fun e w' => ∃ p cap, e = .returned (.tuple #[.slice p n cap, .int .i64 0]) ∧ Below W.heap.size W w' ∧
      Calls Try.prog 13 #[.slice p n cap, va] w' fun e w2 => e = .returned (.bool true) ∧ Below w'.heap.size w' w2))
    (G2 : Hid (∀ W : World, Calls Try.prog 10 #[.string s] W fun e w' => ∃ p cap, e = .returned (.tuple #[.slice p m cap, .int .i64 g]) ∧ Below W.heap.size W w' ∧
      (g = 0 → Calls Try.prog 8 #[.slice p m cap] w' fun e w2 => e = .returned (.tuple #[.string s, .int .i64 0]) ∧ Below w'.heap.size w' w2))) :
    Calls Try.prog 4 #[va, .string s] w fun e w' => e = .returned (.bool true) ∧ Below w.heap.size w w' := by
  subst hc
  have G1 := Lib.hid (G.out rfl)
  have q2 : (g != 0) = true := by rw [bne_iff_ne]; exact hg
  clear hg
  subst hm
  go_enter Try.func4, Try.ntmps4
  go_wp2_with fail
  refine (awake_any _).mono ?_
  rintro e w1 ⟨rfl, hb1⟩
  have B1 := Lib.hid hb1
  clear hb1
  go_wp2_with fail
  refine (P.out _ B1.out).mono ?_
  rintro e w2 ⟨rfl, hb2⟩
  have B2 := Lib.hid (bel2 B1.out hb2)
  clear hb2
  go_wp2_with (go_at_call 12; refine (num_any _ _).mono ?_; rintro e w9 ⟨rfl, rfl⟩)
  refine (G1.out _ B2.out).mono ?_
  rintro e w3 ⟨p, cap, rfl, hb3, hs3⟩
  have B3 := Lib.hid (bel2 B2.out hb3)
  have S3 := Lib.hid hs3
  clear hb3 hs3
  go_wp2_with (first | (go_at_call 12; refine (num_any _ _).mono ?_; rintro e w9 ⟨rfl, rfl⟩) | (go_at_call 13; refine S3.out.mono ?_; rintro e w4 ⟨rfl, hb4⟩; have B4 := Lib.hid (bel2 B3.out hb4); clear hb4))
  refine (G2.out _).mono ?_
  rintro e w5 ⟨p5, cap5, rfl, hb5, hs5⟩
  have B5 := Lib.hid (bel2 B4.out hb5)
  clear hb5
  clear hs5
  go_wp2_with (go_at_call 12; refine (num_any _ _).mono ?_; rintro e w9 ⟨rfl, rfl⟩)
  go_ret
  exact ⟨rfl, B5.out⟩
set_option maxHeartbeats 800000 in
theorem back_ok_ok (va : Value) (T s : ByteArray) (n m : Nat) (c g : Int) (w : World) (hc : c = 0) (hg : g = 0) 
    (P : Hid (∀ W : World, Below w.heap.size w W → Calls Try.prog 8 #[va] W fun e w' => e = .returned (.tuple #[.string T, .int .i64 c]) ∧ Below W.heap.size W w'))
    (G : Hid (c = 0 → ∀ W : World, Below w.heap.size w W → Calls Try.prog 10 #[.string T] W fun e w' => ∃ p cap, e = .returned (.tuple #[.slice p n cap, .int .i64 0]) ∧ Below W.heap.size W w' ∧
      Calls Try.prog 13 #[.slice p n cap, va] w' fun e w2 => e = .returned (.bool true) ∧ Below w'.heap.size w' w2))
    (G2 : Hid (∀ W : World, Calls Try.prog 10 #[.string s] W fun e w' => ∃ p cap, e = .returned (.tuple #[.slice p m cap, .int .i64 g]) ∧ Below W.heap.size W w' ∧
      (g = 0 → Calls Try.prog 8 #[.slice p m cap] w' fun e w2 => e = .returned (.tuple #[.string s, .int .i64 0]) ∧ Below w'.heap.size w' w2))) :
    Calls Try.prog 4 #[va, .string s] w fun e w' => e = .returned (.bool true) ∧ Below w.heap.size w w' := by
  subst hc
  have G1 := Lib.hid (G.out rfl)
  subst hg
  go_enter Try.func4, Try.ntmps4
  go_wp2_with fail
  refine (awake_any _).mono ?_
  rintro e w1 ⟨rfl, hb1⟩
  have B1 := Lib.hid hb1
  clear hb1
  go_wp2_with fail
  refine (P.out _ B1.out).mono ?_
  rintro e w2 ⟨rfl, hb2⟩
  have B2 := Lib.hid (bel2 B1.out hb2)
  clear hb2
  go_wp2_with (go_at_call 12; refine (num_any _ _).mono ?_; rintro e w9 ⟨rfl, rfl⟩)
  refine (G1.out _ B2.out).mono ?_
  rintro e w3 ⟨p, cap, rfl, hb3, hs3⟩
  have B3 := Lib.hid (bel2 B2.out hb3)
  have S3 := Lib.hid hs3
  clear hb3 hs3
  go_wp2_with (first | (go_at_call 12; refine (num_any _ _).mono ?_; rintro e w9 ⟨rfl, rfl⟩) | (go_at_call 13; refine S3.out.mono ?_; rintro e w4 ⟨rfl, hb4⟩; have B4 := Lib.hid (bel2 B3.out hb4); clear hb4))
  refine (G2.out _).mono ?_
  rintro e w5 ⟨p5, cap5, rfl, hb5, hs5⟩
  have B5 := Lib.hid (bel2 B4.out hb5)
  clear hb5
  have S5 := Lib.hid (hs5 (by simp))
  clear hs5
  go_wp2_with (go_at_call 12; refine (num_any _ _).mono ?_; rintro e w9 ⟨rfl, rfl⟩)
  refine S5.out.mono ?_
  rintro e w6 ⟨rfl, hb6⟩
  have B6 := Lib.hid (bel2 B5.out hb6)
  clear hb6
  go_wp2_with (go_at_call 12; refine (num_any _ _).mono ?_; rintro e w9 ⟨rfl, rfl⟩)
  go_ret
  exact ⟨rfl, B6.out⟩
theorem walk_back (v : Value) (os : List Opt.Op) (s : ByteArray) (w : World) (hr : ReadsO w v os) (hl0 : os.length * 24 ≤ 140737488351232) (_ : ∀ o ∈ os, o.2.length ≤ 140737488351232) (hs : s.size ≤ 9223372036854775807) :
    Calls Try.prog 4 #[v, .string s] w fun e w' => e = .returned (.bool true) ∧ Below w.heap.size w w' := by
  have hl : os.length ≤ 4611686018427387904 := by omega
  obtain ⟨l, rfl⟩ : ∃ l : List UInt8, s = ⟨l.toArray⟩ := ⟨s.data.toList, by simp⟩
  rw [sz] at hs
  have hcount := Opt.get_count l
  have P : ∀ W : World, Below w.heap.size w W → Calls Try.prog 8 #[v] W fun e w' => e = .returned (.tuple #[.string ⟨(Opt.put os).toArray⟩, .int .i64 (Opt.code os)]) ∧ Below W.heap.size W w' :=
    fun W hb => oput_any v os W (hr.below hb) hl
  have G : Opt.code os = 0 → ∀ W : World, Below w.heap.size w W → Calls Try.prog 10 #[.string ⟨(Opt.put os).toArray⟩] W fun e w' => ∃ p cap, e = .returned (.tuple #[.slice p os.length cap, .int .i64 0]) ∧ Below W.heap.size W w' ∧
      Calls Try.prog 13 #[.slice p os.length cap, v] w' fun e w2 => e = .returned (.bool true) ∧ Below w'.heap.size w' w2 := fun h0 W hb => by
    have hp : Opt.put os = Opt.wires os := by unfold Opt.put; rw [if_pos h0]
    have h2 : (Opt.wires os).length ≤ 2048 := by
      rcases Opt.code_ways os with ⟨_, h⟩ | ⟨_, _, h⟩ | ⟨_, h, _⟩
      · omega
      · omega
      · exact (Opt.fits_short os h).2
    have h := oget_any (Opt.put os) W (by rw [hp]; omega)
    rw [hp, Opt.get_put os h0] at h
    rw [hp]
    refine h.mono ?_
    rintro e w' ⟨u, rfl, ho⟩
    obtain ⟨p, cap, rfl⟩ : ∃ p cap, u = .slice p os.length cap := by
      obtain ⟨p, cap, _, _, h, _⟩ := ho.reads.at
      exact ⟨p, cap, h⟩
    refine ⟨p, cap, rfl, ho.2, ?_⟩
    have hS := sameO_any _ v os os w' ho.reads (hr.below (bel2 hb ho.2)) hl hl
    rwa [show decide (os = os) = true by simp] at hS
  have G2 : ∀ W : World, Calls Try.prog 10 #[.string ⟨l.toArray⟩] W fun e w' => ∃ p cap, e = .returned (.tuple #[.slice p (Opt.get l).1.length cap, .int .i64 (Opt.get l).2]) ∧ Below W.heap.size W w' ∧
      ((Opt.get l).2 = 0 → Calls Try.prog 8 #[.slice p (Opt.get l).1.length cap] w' fun e w2 => e = .returned (.tuple #[.string ⟨l.toArray⟩, .int .i64 0]) ∧ Below w'.heap.size w' w2) := fun W => by
    refine (oget_any l W hs).mono ?_
    rintro e w' ⟨u, rfl, ho⟩
    obtain ⟨p, cap, rfl⟩ : ∃ p cap, u = .slice p (Opt.get l).1.length cap := by
      obtain ⟨p, cap, _, _, h, _⟩ := ho.reads.at
      exact ⟨p, cap, h⟩
    refine ⟨p, cap, rfl, ho.2, fun h0 => ?_⟩
    obtain ⟨h1, h2⟩ := Opt.put_get l h0
    have h := oput_any _ (Opt.get l).1 w' ho.reads (by omega)
    have hp : Opt.put (Opt.get l).1 = l := by unfold Opt.put; rw [if_pos h2, h1]
    rwa [hp, h2] at h
  by_cases h1 : Opt.code os = 0
  · by_cases h2 : (Opt.get l).2 = 0
    · exact back_ok_ok v _ _ _ _ _ _ w h1 h2 (Lib.hid P) (Lib.hid G) (Lib.hid G2)
    · exact back_ok_bad v _ _ _ _ _ _ w h1 h2 (by rw [Opt.get_none l h2]; rfl) (Lib.hid P) (Lib.hid G) (Lib.hid G2)
  · by_cases h2 : (Opt.get l).2 = 0
    · exact back_bad_ok v _ _ _ _ _ w h1 h2 (Lib.hid P) (Lib.hid G2)
    · exact back_bad_bad v _ _ _ _ _ w h1 h2 (by rw [Opt.get_none l h2]; rfl) (Lib.hid P) (Lib.hid G2)
end Go.Proofs.Ytkbknmoheecplaa.O
