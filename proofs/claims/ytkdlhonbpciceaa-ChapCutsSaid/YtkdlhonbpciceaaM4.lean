/-
  The walk of the law of a message that says more than there is.
-/
import Derived.Test.YtkdlhonbpciceaaH9
import Derived.Test.YtkdlhonbpciceaaM3
import Derived.Test.YtkdlhonbpciceaaMasks
import Derived.RegionTactic
import Derived.BigRegion
import Derived.Deep.QuietTactic
import Derived.BigQuiet
import Derived.Deep.RegionWith
import Derived.Deep.DeepCutAuto
namespace Go.Proofs.Ytkdlhonbpciceaa.H
open Go.RowKit
theorem five_cells (k v : Nat) (hk : k < 128) (hv : v < 64) : (#[Value.int .u8 1, .int .u8 5, .int .u8 0, .int .u8 (k : Int), .int .u8 (v : Int)] : Array Value) = (Lib.byteCells [1, 5, 0, UInt8.ofNat k, UInt8.ofNat v]).toArray := by
  have h1 : (UInt8.ofNat k).toNat = k := by simp; omega
  have h2 : (UInt8.ofNat v).toNat = v := by simp; omega
  simp only [Lib.byteCells, List.map_cons, List.map_nil, h1, h2]
  rfl
set_option maxRecDepth 100000 in
set_option maxHeartbeats 3200000 in
theorem cuts_walk (zl zs : Int) (k v : Nat) (s : ByteArray) (m U : List UInt8) (w : World) (hk : bits BinOp.and IntKind.i64 zl 127 = (k : Int)) (hk8 : k < 128) (hv : bits BinOp.and IntKind.i64 zs 63 = (v : Int)) (hv8 : v < 64) (hm : m.length ≤ 100)
    (HM : Hid (s.size ≤ 100 ∧ s = ⟨m.toArray⟩ ∨ 100 < s.size ∧ s.extract 0 100 = ⟨m.toArray⟩)) (r1 : Sums [1, 5, 0, UInt8.ofNat k, UInt8.ofNat v] m U)
    (AW : Hid (∀ W, Calls Try.prog 13 #[] W fun e w' => e = .returned (.bool true) ∧ Below W.heap.size W w'))
    (BAD : Hid (k < 5 ∨ m.length + 5 < k ∨ v = 0 ∨ k < v + 5 → ∀ W, Calls Try.prog 10 #[.string ⟨U.toArray⟩] W (MsgPost (Chp.zero, 600) W)))
    (GOOD : Hid (5 ≤ k → k ≤ m.length + 5 → v ≠ 0 → v + 5 ≤ k → ∃ vl nl : List UInt8, (ByteArray.mk m.toArray).extract 0 v = ⟨vl.toArray⟩ ∧ (ByteArray.mk m.toArray).extract v (k - 5) = ⟨nl.toArray⟩ ∧ ∀ W, Calls Try.prog 10 #[.string ⟨U.toArray⟩] W (MsgPost ((1, 5, vl, nl), 0) W))) :
    Calls Try.prog 6 #[.int .i64 zl, .int .i64 zs, .string s] w fun e w' => e = .returned (.bool true) ∧ Below w.heap.size w w' := by
  unfold Sums at r1
  have F := fun W => conv_new W [1, 5, 0, UInt8.ofNat k, UInt8.ofNat v] _ (five_cells k v hk8 hv8)
  obtain ⟨S0, hS0⟩ : ∃ S0, S0 = [1, 5, 0, UInt8.ofNat k, UInt8.ofNat v] := ⟨_, rfl⟩
  rw [← hS0, show S0.length = 5 by rw [hS0]; rfl] at F
  rw [← hS0] at r1
  clear hS0
  go_enter Try.func6, Try.ntmps6
  go_wp2_with fail
  refine (AW.out _).mono ?_
  rintro e w1 ⟨rfl, hb1⟩
  have B1 := Lib.hid hb1
  clear hb1
  go_upto_if 17 with (fail)
  go_cut [7] (fun t wx => t = .string ⟨m.toArray⟩ ∧ w1 = wx)
  case first =>
    clear BAD GOOD r1 F
    rcases HM.out with ⟨h1, h2⟩ | ⟨h1, h2⟩
    · subst h2
      clear HM
      go_wp2_with fail
      go_meet
      case rel => exact ⟨rfl, rfl⟩
    · clear HM
      go_wp2_with fail
      go_meet
      case rel => exact ⟨rfl, rfl⟩
  case rest =>
    obtain ⟨rfl, rfl⟩ := hcut
    clear HM
    go_wp2_with fail
    have B2 := Lib.hid (B1.out.alloc B1.out.size (.cells #[.int .u8 1, .int .u8 5, .int .u8 0, .int .u8 (k : Int), .int .u8 (v : Int)] 5))
    by_cases hbad : k < 5 ∨ m.length + 5 < k ∨ v = 0 ∨ k < v + 5
    · have G := Lib.hid (BAD.out hbad)
      clear BAD GOOD r1 F
      refine (G.out _).mono ?_
      rintro e w3 ⟨rfl, hb3⟩
      have B3 := Lib.hid (bel2 (bel2 B2.out hb3) ((Below.refl w3.heap.size w3).alloc (Nat.le_refl _) (.cells #[.int .i64 0, .int .i64 0, .string ⟨#[]⟩, .string ⟨#[]⟩] 23)))
      clear hb3
      have EQ := eqC_yes 0 0 [] []
      have E1 := EQ.1
      have E2 := EQ.2.2
      have E3 := guardC
      clear EQ
      by_cases h1 : k < 5
      · have j1 : (k : Int) < 5 := by omega
        clear hbad
        go_wp2_with (go_at_call 12; refine (num_any _ _).mono ?_; rintro e w9 ⟨rfl, rfl⟩)
        go_ret
        exact ⟨rfl, B3.out⟩
      · have j1 : (5 : Int) ≤ (k : Int) := by omega
        by_cases h2 : m.length + 5 < k
        · have j2 : (m.length : Int) + 5 < (k : Int) := by omega
          clear hbad
          go_wp2_with (go_at_call 12; refine (num_any _ _).mono ?_; rintro e w9 ⟨rfl, rfl⟩)
          go_ret
          exact ⟨rfl, B3.out⟩
        · have j2 : (k : Int) ≤ (m.length : Int) + 5 := by omega
          by_cases h3 : v = 0
          · have j3 : ((v : Int) == 0) = true := by rw [h3]; rfl
            clear hbad h3
            go_wp2_with (go_at_call 12; refine (num_any _ _).mono ?_; rintro e w9 ⟨rfl, rfl⟩)
            go_ret
            exact ⟨rfl, B3.out⟩
          · have j3 : ((v : Int) == 0) = false := by rw [beq_eq_false_iff_ne]; omega
            have j4 : (k : Int) - 5 < (v : Int) := by omega
            clear hbad h3
            go_wp2_with (go_at_call 12; refine (num_any _ _).mono ?_; rintro e w9 ⟨rfl, rfl⟩)
            go_ret
            exact ⟨rfl, B3.out⟩
    · obtain ⟨vl, nl, hvl, hnl, hg⟩ := GOOD.out (by omega) (by omega) (by omega) (by omega)
      have G := Lib.hid hg
      clear BAD GOOD r1 F hg
      refine (G.out _).mono ?_
      rintro e w3 ⟨rfl, hb3⟩
      have B3 := Lib.hid (bel2 (bel2 B2.out hb3) ((Below.refl w3.heap.size w3).alloc (Nat.le_refl _) (.cells #[.int .i64 1, .int .i64 5, .string ⟨vl.toArray⟩, .string ⟨nl.toArray⟩] 23)))
      clear hb3
      have EQ := eqC_yes 1 5 vl nl
      have E1 := EQ.1
      have E2 := EQ.2.2
      have E3 := guardC
      clear EQ
      have j1 : (5 : Int) ≤ (k : Int) := by omega
      have j2 : (k : Int) ≤ (m.length : Int) + 5 := by omega
      have j3 : ((v : Int) == 0) = false := by rw [beq_eq_false_iff_ne]; omega
      have j4 : (v : Int) ≤ (k : Int) - 5 := by omega
      have j5 : (v : Int) ≤ (m.length : Int) := by omega
      have j6 : (k : Int) - 5 ≤ (m.length : Int) := by omega
      have j7 : ((k : Int) - 5).toNat = k - 5 := by omega
      have j8 : (0 : Int) ≤ (k : Int) - 5 := by omega
      clear hbad
      go_wp2_with fail
      go_quiet ((go_at_call 12; exact Calls.quiet_of_same ((num_any _ _).mono fun _ _ ⟨h1, h2⟩ => ⟨h1, h2.symm⟩)))
      go_wp2_with fail
      go_ret
      exact ⟨rfl, below_drewN B3.out _⟩
theorem walk_cuts (zl zs : Int) (s : ByteArray) (w : World) (_ : (Lit.int .i64 zl).wf = true) (_ : (Lit.int .i64 zs).wf = true) (_ : s.size ≤ 140737488351232) :
    Calls Try.prog 6 #[.int .i64 zl, .int .i64 zs, .string s] w fun e w' => e = .returned (.bool true) ∧ Below w.heap.size w w' := by
  obtain ⟨k, hk, hk8⟩ := low_bits zl 7 (by decide)
  obtain ⟨v, hv, hv8⟩ := low_bits zs 6 (by decide)
  obtain ⟨m, hm, hm1⟩ : ∃ m : List UInt8, (s.size ≤ 100 ∧ s = ⟨m.toArray⟩ ∨ 100 < s.size ∧ s.extract 0 100 = ⟨m.toArray⟩) ∧ m.length ≤ 100 := by
    by_cases h : 100 < s.size
    · obtain ⟨m, h1, h2⟩ := cut_hundred s h
      exact ⟨m, .inr ⟨h, h1⟩, by omega⟩
    · refine ⟨s.data.toList, .inl ⟨by omega, by simp⟩, ?_⟩
      have e : s.data.toList.length = s.size := by simp
      omega
  have ek : (0 : UInt8).toNat * 256 + (UInt8.ofNat k).toNat = k := by simp; omega
  have ev : (UInt8.ofNat v).toNat = v := by simp; omega
  have hG := Chp.get_four 1 5 0 (UInt8.ofNat k) (UInt8.ofNat v :: m)
  rw [ek] at hG
  have hval : Chp.val (((1 : UInt8).toNat : Nat) : Int) = true := rfl
  have hU : ∀ W, Calls Try.prog 10 #[.string ⟨([1, 5, 0, UInt8.ofNat k, UInt8.ofNat v] ++ m).toArray⟩] W (MsgPost (Chp.get (1 :: 5 :: 0 :: UInt8.ofNat k :: UInt8.ofNat v :: m)) W) := fun W => hget_any ([1, 5, 0, UInt8.ofNat k, UInt8.ofNat v] ++ m) W (by rw [List.length_append]; simp; omega)
  have hG2 : 5 ≤ k → k ≤ m.length + 5 → Chp.get (1 :: 5 :: 0 :: UInt8.ofNat k :: UInt8.ofNat v :: m) = if (m.take (k - 5)).length < v then (Chp.zero, 600) else Chp.seen (1, 5, (m.take (k - 5)).take v, (m.take (k - 5)).drop v) := fun h1 h2 => by
    have et : (UInt8.ofNat v :: m).take (k - 4) = UInt8.ofNat v :: m.take (k - 5) := by
      obtain ⟨j, rfl⟩ : ∃ j, k = j + 5 := ⟨_, (Nat.sub_add_cancel h1).symm⟩
      simp
    rw [hG, if_neg (by rw [List.length_cons]; omega), et]
    unfold Chp.inner
    rw [if_pos hval]
    dsimp only
    rw [ev]
    rfl
  refine cuts_walk zl zs k v s m _ w hk hk8 hv hv8 hm1 (Lib.hid hm) (sums [1, 5, 0, UInt8.ofNat k, UInt8.ofNat v] m (by simp; omega)) (Lib.hid fun W => awake_any W) (Lib.hid fun hq W => ?_) (Lib.hid fun h1 h2 h3 h4 => ?_)
  · have e : Chp.get (1 :: 5 :: 0 :: UInt8.ofNat k :: UInt8.ofNat v :: m) = (Chp.zero, 600) := by
      by_cases h1 : k < 4 ∨ m.length + 5 < k
      · rw [hG, if_pos (by rw [List.length_cons]; omega)]
      · by_cases h2 : k < 5
        · rw [hG, if_neg (by rw [List.length_cons]; omega), show k - 4 = 0 by omega]
          exact Chp.inner_short _ _ _ hval rfl
        · rw [hG2 (by omega) (by omega), List.length_take]
          by_cases h3 : v = 0
          · rw [if_neg (by omega)]
            subst h3
            rfl
          · rw [if_pos (by omega)]
    have h := hU W
    rwa [e] at h
  · have hlen : (m.take (k - 5)).length = k - 5 := by rw [List.length_take]; omega
    refine ⟨(m.take (k - 5)).take v, (m.take (k - 5)).drop v, ?_, cut_list _ _ _, fun W => ?_⟩
    · rw [cut_list, List.take_take, Nat.min_eq_left (by omega)]; rfl
    · have h := hU W
      have hh : Chp.holds 1 ((m.take (k - 5)).take v) = true := by
        show (decide (1 ≤ ((m.take (k - 5)).take v).length) && decide (((m.take (k - 5)).take v).length ≤ 255)) = true
        rw [List.length_take, hlen, Bool.and_eq_true, decide_eq_true_eq, decide_eq_true_eq]
        omega
      have e : Chp.code (1, 5, (m.take (k - 5)).take v, (m.take (k - 5)).drop v) = 0 := (if_pos ⟨rfl, rfl, hh⟩).trans (if_pos (by dsimp only; rw [List.length_drop, hlen]; omega))
      rwa [hG2 h1 h2, if_neg (by rw [hlen]; omega), Chp.seen_good _ e] at h
end Go.Proofs.Ytkdlhonbpciceaa.H
