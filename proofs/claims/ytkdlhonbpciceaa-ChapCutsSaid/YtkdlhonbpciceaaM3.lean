/-
  The walk of the law of how long a value may be.
-/
import Derived.Test.YtkdlhonbpciceaaH9
import Derived.Test.YtkdlhonbpciceaaMasks
import Derived.Deep.DeepCutAuto
namespace Go.Proofs.Ytkdlhonbpciceaa.H
open Go.RowKit
theorem cut_hundred (s : ByteArray) (h : 100 < s.size) : ∃ dl : List UInt8, s.extract 0 100 = ⟨dl.toArray⟩ ∧ dl.length = 100 := by
  obtain ⟨l, rfl⟩ : ∃ l : List UInt8, s = ⟨l.toArray⟩ := ⟨s.data.toList, by simp⟩
  rw [sz] at h
  exact ⟨l.take 100, cut_list l 0 100, by rw [List.length_take]; omega⟩
set_option maxRecDepth 100000 in
set_option maxHeartbeats 3200000 in
theorem values_walk (z zm E : Int) (x k : Nat) (s A : ByteArray) (m V : List UInt8) (w : World) (hx : wrap64 ((IntKind.u64.wrap z).tmod 4) = (x : Int)) (hx4 : x < 4) (hk : bits BinOp.and IntKind.i64 zm 511 = (k : Int)) (hk5 : k < 512) (hV : V.length = k)
    (M1 : ∀ W : World, (Instr.makeSlice 37 (.int .i64 (k : Int)) (.int .i64 (k : Int))).run Try.prog W = .ok (.slice (some ⟨W.heap.size, 0, none⟩) k k) (W.alloc (.cells (Lib.byteCells V).toArray 5)))
    (M2 : ∀ W : World, (convert 37 9 (.slice (some ⟨W.heap.size, 0, none⟩) k k)).run Try.prog (W.alloc (.cells (Lib.byteCells V).toArray 5)) = .ok (.string ⟨V.toArray⟩) (W.alloc (.cells (Lib.byteCells V).toArray 5)))
    (HM : Hid (s.size ≤ 100 ∧ s = ⟨m.toArray⟩ ∨ 100 < s.size ∧ s.extract 0 100 = ⟨m.toArray⟩))
    (AW : Hid (∀ W, Calls Try.prog 13 #[] W fun e w' => e = .returned (.bool true) ∧ Below W.heap.size W w'))
    (PUT : Hid (∀ W, Calls Try.prog 8 #[.agg #[.int .i64 (1 + (x : Int)), .int .i64 1, .string ⟨V.toArray⟩, .string ⟨m.toArray⟩]] W fun e w' => e = .returned (.tuple #[.string A, .int .i64 E]) ∧ Below W.heap.size W w'))
    (BAD : Hid (x < 2 ∧ k < 1 ∨ x < 2 ∧ 255 < k ∨ 2 ≤ x ∧ 0 < k → A = ⟨#[]⟩ ∧ E = 600))
    (GOOD : Hid (x < 2 ∧ 1 ≤ k ∧ k ≤ 255 ∨ 2 ≤ x ∧ k = 0 → E = 0 ∧ ∀ W, Calls Try.prog 10 #[.string A] W (MsgPost ((1 + (x : Int), 1, V, m), 0) W))) :
    Calls Try.prog 5 #[.int .i64 z, .int .i64 zm, .string s] w fun e w' => e = .returned (.bool true) ∧ Below w.heap.size w w' := by
  go_enter Try.func5, Try.ntmps5
  go_wp2_with fail
  refine (AW.out _).mono ?_
  rintro e w1 ⟨rfl, hb1⟩
  have B1 := Lib.hid hb1
  clear hb1
  go_upto_if 27 with (fail)
  go_cut [9] (fun t wx => t = .string ⟨m.toArray⟩ ∧ w1 = wx)
  case first =>
    clear PUT BAD GOOD M1 M2
    rcases HM.out with ⟨h1, h2⟩ | ⟨h1, h2⟩
    · subst h2
      clear HM
      go_wp2_with fail
      go_meet
      case rel => exact ⟨rfl, rfl⟩
    · clear HM
      go_wp2_with fail
      go_meet
      case rel => exact ⟨rfl, rfl⟩
  case rest =>
    obtain ⟨rfl, rfl⟩ := hcut
    clear HM
    go_wp2_with fail
    refine (PUT.out _).mono ?_
    rintro e w3 ⟨rfl, hb3⟩
    have B3 := Lib.hid (bel2 (bel2 B1.out ((Below.refl w1.heap.size w1).alloc (Nat.le_refl _) (.cells (Lib.byteCells V).toArray 5))) hb3)
    clear hb3
    by_cases h1 : x < 2
    · have j1 : 1 + (x : Int) ≤ 2 := by omega
      by_cases h2 : k < 1
      · have j2 : (k : Int) < 1 := by omega
        obtain ⟨rfl, rfl⟩ := BAD.out (.inl ⟨h1, h2⟩)
        clear BAD GOOD PUT M1 M2
        go_wp2_with (go_at_call 12; refine (num_any _ _).mono ?_; rintro e w9 ⟨rfl, rfl⟩)
        go_ret
        exact ⟨rfl, B3.out⟩
      · have j2 : (1 : Int) ≤ (k : Int) := by omega
        by_cases h3 : 255 < k
        · have j3 : (255 : Int) < (k : Int) := by omega
          have j4 : decide ((k : Int) ≤ 255) = false := decide_eq_false (by omega)
          obtain ⟨rfl, rfl⟩ := BAD.out (.inr (.inl ⟨h1, h3⟩))
          clear BAD GOOD PUT M1 M2
          go_wp2_with (go_at_call 12; refine (num_any _ _).mono ?_; rintro e w9 ⟨rfl, rfl⟩)
          go_ret
          exact ⟨rfl, B3.out⟩
        · have j3 : (k : Int) ≤ 255 := by omega
          obtain ⟨rfl, hg⟩ := GOOD.out (.inl ⟨h1, by omega, by omega⟩)
          have G := Lib.hid hg
          clear BAD GOOD PUT M1 M2 hg
          go_wp2_with (go_at_call 12; refine (num_any _ _).mono ?_; rintro e w9 ⟨rfl, rfl⟩)
          refine (G.out _).mono ?_
          rintro e w4 ⟨rfl, hb4⟩
          have B4 := Lib.hid (bel2 (bel2 B3.out hb4) ((Below.refl w4.heap.size w4).alloc (Nat.le_refl _) (.cells #[.int .i64 (1 + (x : Int)), .int .i64 1, .string ⟨V.toArray⟩, .string ⟨m.toArray⟩] 23)))
          clear hb4
          go_wp2_with (go_at_call 12; refine (num_any _ _).mono ?_; rintro e w9 ⟨rfl, rfl⟩)
          go_ret
          exact ⟨rfl, B4.out⟩
    · have j1 : 2 < 1 + (x : Int) := by omega
      by_cases h2 : k = 0
      · subst h2
        obtain ⟨rfl, hg⟩ := GOOD.out (.inr ⟨by omega, rfl⟩)
        have G := Lib.hid hg
        clear BAD GOOD PUT M1 M2 hg
        go_wp2_with (go_at_call 12; refine (num_any _ _).mono ?_; rintro e w9 ⟨rfl, rfl⟩)
        refine (G.out _).mono ?_
        rintro e w4 ⟨rfl, hb4⟩
        have B4 := Lib.hid (bel2 (bel2 B3.out hb4) ((Below.refl w4.heap.size w4).alloc (Nat.le_refl _) (.cells #[.int .i64 (1 + (x : Int)), .int .i64 1, .string ⟨V.toArray⟩, .string ⟨m.toArray⟩] 23)))
        clear hb4
        go_wp2_with (go_at_call 12; refine (num_any _ _).mono ?_; rintro e w9 ⟨rfl, rfl⟩)
        go_ret
        exact ⟨rfl, B4.out⟩
      · have j2 : ((k : Int) == 0) = false := by rw [beq_eq_false_iff_ne]; omega
        obtain ⟨rfl, rfl⟩ := BAD.out (.inr (.inr ⟨by omega, by omega⟩))
        clear BAD GOOD PUT M1 M2
        go_wp2_with (go_at_call 12; refine (num_any _ _).mono ?_; rintro e w9 ⟨rfl, rfl⟩)
        go_ret
        exact ⟨rfl, B3.out⟩
theorem walk_values (z zm : Int) (s : ByteArray) (w : World) (_ : (Lit.int .i64 z).wf = true) (_ : (Lit.int .i64 zm).wf = true) (_ : s.size ≤ 140737488351232) :
    Calls Try.prog 5 #[.int .i64 z, .int .i64 zm, .string s] w fun e w' => e = .returned (.bool true) ∧ Below w.heap.size w w' := by
  obtain ⟨x, hx, hx4⟩ := by_four z
  obtain ⟨k, hk, hk5⟩ := low_bits zm 9 (by decide)
  obtain ⟨m, hm, hm1⟩ : ∃ m : List UInt8, (s.size ≤ 100 ∧ s = ⟨m.toArray⟩ ∨ 100 < s.size ∧ s.extract 0 100 = ⟨m.toArray⟩) ∧ m.length ≤ 100 := by
    by_cases h : 100 < s.size
    · obtain ⟨m, h1, h2⟩ := cut_hundred s h
      exact ⟨m, .inr ⟨h, h1⟩, by omega⟩
    · refine ⟨s.data.toList, .inl ⟨by omega, by simp⟩, ?_⟩
      have e : s.data.toList.length = s.size := by simp
      omega
  have hz := zeros_length k
  have hval : ∀ c : Nat, c < 4 → Chp.kind (1 + (c : Int)) = true ∧ Chp.byte 1 = true ∧ Chp.val (1 + (c : Int)) = decide (c < 2) := by decide
  obtain ⟨v1, v2, v3⟩ := hval x hx4
  have P := fun W => hput_any (1 + (x : Int)) 1 (zeros k) m W (by omega)
  refine values_walk z zm _ x k s _ m (zeros k) w hx hx4 hk hk5 hz (fun W => make_bytes k (by omega) W) (fun W => zeros_text W k) (Lib.hid hm) (Lib.hid fun W => awake_any W) (Lib.hid P) (Lib.hid fun hq => ?_) (Lib.hid fun hq => ?_)
  · have hh : Chp.holds (1 + (x : Int)) (zeros k) = false := by
      unfold Chp.holds
      rw [v3]
      rcases hq with ⟨a, b⟩ | ⟨a, b⟩ | ⟨a, b⟩
      · rw [if_pos (by simpa using a), Bool.and_eq_false_iff, decide_eq_false_iff_not, decide_eq_false_iff_not]; omega
      · rw [if_pos (by simpa using a), Bool.and_eq_false_iff, decide_eq_false_iff_not, decide_eq_false_iff_not]; omega
      · rw [if_neg (by simpa using a)]
        cases hzz : zeros k with
        | nil => rw [hzz] at hz; simp at hz; omega
        | cons _ _ => rfl
    have e : Chp.code (1 + (x : Int), 1, zeros k, m) = 600 := if_neg (by rintro ⟨_, _, g⟩; rw [hh] at g; cases g)
    rw [Chp.put_bad _ (by omega), e]
    exact ⟨rfl, rfl⟩
  · have hh : Chp.holds (1 + (x : Int)) (zeros k) = true := by
      unfold Chp.holds
      rw [v3]
      rcases hq with ⟨a, b⟩ | ⟨a, b⟩
      · rw [if_pos (by simpa using a), Bool.and_eq_true, decide_eq_true_eq, decide_eq_true_eq]; omega
      · subst b
        rw [if_neg (by simpa using a)]
        rfl
    have e : Chp.code (1 + (x : Int), 1, zeros k, m) = 0 := (if_pos ⟨v1, v2, hh⟩).trans (if_pos (by dsimp only; omega))
    have hb := Chp.body_len _ e
    refine ⟨e, fun W => ?_⟩
    have h := hget_any (Chp.put (1 + (x : Int), 1, zeros k, m)) W (by rw [Chp.put_good _ e, Chp.wire_length]; omega)
    have h2 := Chp.get_wire _ [] e
    rw [List.append_nil, ← Chp.put_good _ e] at h2
    rwa [h2] at h
end Go.Proofs.Ytkdlhonbpciceaa.H
