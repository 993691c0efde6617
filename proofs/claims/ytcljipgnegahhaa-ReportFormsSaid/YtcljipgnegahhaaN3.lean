/-
  The walk of the law of how many numbers, how many bytes.
-/
import Derived.Test.YtcljipgnegahhaaJ9
import Derived.Test.YtcljipgnegahhaaN2
import Derived.Test.YtcljipgnegahhaaMasks
import Derived.Deep.DeepCutAuto
namespace Go.Proofs.Ytcljipgnegahhaa.J
open Go.RowKit
set_option maxRecDepth 100000 in
set_option maxHeartbeats 3200000 in
theorem forms_walk (zm x zs E G : Int) (k b c : Nat) (F : Bool) (A : ByteArray) (V : List UInt8) (L : List Int) (w : World) (hy : bits BinOp.and IntKind.i64 zm 15 = (k : Int)) (hk : k < 16) (hz : bits BinOp.and IntKind.i64 zs 15 = (b : Int)) (hb : b < 16)
    (M1 : ∀ W : World, (Instr.makeSlice 22 (.int .i64 (k : Int)) (.int .i64 (k : Int))).run Try.prog W = .ok (.slice (some ⟨W.heap.size, 0, none⟩) k k) (W.alloc (.cells (cellsI (List.replicate k 0)).toArray 3)))
    (M2 : ∀ W : World, (Instr.makeSlice 39 (.int .i64 (40 + (b : Int))) (.int .i64 (40 + (b : Int)))).run Try.prog W = .ok (.slice (some ⟨W.heap.size, 0, none⟩) (40 + b) (40 + b)) (W.alloc (.cells (Lib.byteCells V).toArray 5)))
    (M3 : ∀ W : World, (convert 39 9 (.slice (some ⟨W.heap.size, 0, none⟩) (40 + b) (40 + b))).run Try.prog (W.alloc (.cells (Lib.byteCells V).toArray 5)) = .ok (.string ⟨V.toArray⟩) (W.alloc (.cells (Lib.byteCells V).toArray 5)))
    (HL : Hid ((List.replicate k 0).set (k - 1) x = L ∧ L.length = k))
    (PUT : Hid (∀ v W, ReadsI W v L → Calls Try.prog 7 #[v] W fun e w' => e = .returned (.tuple #[.string A, .int .i64 E]) ∧ Below W.heap.size W w'))
    (GET : Hid (∀ W, Calls Try.prog 9 #[.string ⟨V.toArray⟩] W fun e w' => ∃ q cap, e = .returned (.tuple #[.slice q c cap, .int .i64 G]) ∧ Below W.heap.size W w'))
    (HF : Hid (k = 12 ∧ 0 ≤ x ∧ x ≤ 4294967295 ∧ F = true ∨ k = 12 ∧ 0 ≤ x ∧ 4294967295 < x ∧ F = false ∨ k = 12 ∧ x < 0 ∧ F = false ∨ k ≠ 12 ∧ F = false))
    (HE : Hid (F = true ∧ E = 0 ∨ F = false ∧ E = 700))
    (HG : Hid (b = 8 ∧ c = 12 ∧ G = 0 ∨ b ≠ 8 ∧ c = 0 ∧ G = 700))
    (AW : Hid (∀ W, Calls Try.prog 15 #[] W fun e w' => e = .returned (.bool true) ∧ Below W.heap.size W w')) :
    Calls Try.prog 5 #[.int .i64 zm, .int .i64 x, .int .i64 zs] w fun e w' => e = .returned (.bool true) ∧ Below w.heap.size w w' := by
  go_enter Try.func5, Try.ntmps5
  go_wp2_with fail
  refine (AW.out _).mono ?_
  rintro e w1 ⟨rfl, hb1⟩
  have B1 := Lib.hid hb1
  clear hb1
  go_upto_if 22 with (fail)
  have HM := Lib.hid (OwnsI.laid w1 _ rfl (List.replicate k 0) (by simp; omega) _ rfl)
  go_cut [8] (fun t wx => t = .slice (some ⟨w1.heap.size, 0, none⟩) k k ∧ OwnsI w1 wx t L)
  case first =>
    have hrow : OwnsI w1 (w1.alloc (.cells (cellsI (List.replicate k 0)).toArray 3)) (.slice (some ⟨w1.heap.size, 0, none⟩) k k) (List.replicate k 0) := by
      have h := HM.out
      rwa [List.length_replicate] at h
    have HR := Lib.hid hrow
    clear HM hrow PUT GET HF HE HG M1 M2 M3
    by_cases h0 : 0 < k
    · obtain ⟨j, hj⟩ : ∃ j, k = j + 1 := ⟨k - 1, by omega⟩
      have hi2 := fun W => intI_index w1.heap.size 0 k k j (by omega) W
      rw [Nat.zero_add, show ((j : Nat) : Int) = (k : Int) - 1 by omega] at hi2
      have hf := owns_frozen (List.length_replicate (n := k) (a := (0 : Int))) HR.out j
      obtain ⟨z0, cx⟩ := owns_one (List.length_replicate (n := k) (a := (0 : Int))) HR.out j (by omega)
      have hl2 : (List.replicate k (0 : Int)).set j x = L := by rw [← HL.out.1, hj]; rfl
      have ho2 := OwnsI.laid w1 _ rfl L (by rw [HL.out.2]; omega) ((cellsI (List.replicate k 0)).set j (.int .i64 x)).toArray (by rw [← cellsI_set, hl2])
      rw [HL.out.2] at ho2
      have HO2 := Lib.hid ho2
      clear ho2
      have h1 : (0 : Int) < (k : Int) := by omega
      clear hl2 hj HL
      go_wp2_with fail
      go_meet
      case rel => exact ⟨rfl, HO2.out⟩
    · have hl2 : (List.replicate k (0 : Int)) = L := by
        rw [← HL.out.1]
        obtain rfl : k = 0 := by omega
        rfl
      have ho2 := OwnsI.laid w1 _ rfl L (by rw [HL.out.2]; omega) (cellsI (List.replicate k 0)).toArray (by rw [hl2])
      rw [HL.out.2] at ho2
      have HO2 := Lib.hid ho2
      clear ho2
      have h1 : ¬ (0 : Int) < (k : Int) := by omega
      clear hl2 HL
      go_wp2_with fail
      go_meet
      case rel => exact ⟨rfl, HO2.out⟩
  case rest =>
    obtain ⟨rfl, ho⟩ := hcut
    have HO := Lib.hid ho
    clear ho HM
    go_wp2_with fail
    refine (PUT.out _ _ HO.out.reads).mono ?_
    rintro e w3 ⟨rfl, hb3⟩
    have B3 := Lib.hid (bel2 (bel2 B1.out HO.out.2) hb3)
    clear hb3
    go_upto_region 8 with (fail)
    go_cut [7, 11] (fun t7 t wx => t7 = .int .i64 (k : Int) ∧ t = .bool F ∧ w3 = wx)
    case first =>
      clear PUT GET HE HG M1 M2 M3
      rcases HF.out with ⟨h1, h2, h3, h4⟩ | ⟨h1, h2, h3, h4⟩ | ⟨h1, h2, h4⟩ | ⟨h1, h4⟩
      case' inr.inl => have q3 : decide (x ≤ 4294967295) = false := decide_eq_false (by omega)
      all_goals
        have H4 := Lib.hid h4
        have q1 : ((k : Int) == 12) = decide (k = 12) := by
          rw [Bool.eq_iff_iff, beq_iff_eq, decide_eq_true_iff]
          omega
        clear h4 HF
        simp only [h1, decide_true, decide_false] at q1
        have K1 := Lib.hid h1
        clear h1 hk hy
        go_wp2_with fail
        all_goals go_meet
        all_goals first | exact ⟨by first | rfl | rw [K1.out]; rfl, ret0 H4.out.symm, rfl⟩ | (exfalso; have := K1.out; omega)
    case rest =>
      obtain ⟨rfl, rfl, rfl⟩ := hcut
      go_wp2_with fail
      refine (GET.out _).mono ?_
      rintro e w4 ⟨q, cap, rfl, hb4⟩
      have B4 := Lib.hid (bel2 (bel2 B3.out ((Below.refl w3.heap.size w3).alloc (Nat.le_refl _) (.cells (Lib.byteCells V).toArray 5))) hb4)
      clear hb4 M1 M2 M3 PUT GET HF
      rcases HE.out with ⟨h1, h2⟩ | ⟨h1, h2⟩ <;> rcases HG.out with ⟨h3, h4, h5⟩ | ⟨h3, h4, h5⟩
      all_goals
        have q1 : ((40 : Int) + (b : Int) == 48) = decide (b = 8) := by
          rw [Bool.eq_iff_iff, beq_iff_eq, decide_eq_true_iff]
          omega
        simp only [h3, decide_true, decide_false] at q1
        subst h1 h2 h4 h5
        clear HE HG
        go_wp2_with (go_at_call 11; refine (num_any _ _).mono ?_; rintro e w9 ⟨rfl, rfl⟩)
        go_ret
        exact ⟨rfl, B4.out⟩
theorem all_row (k : Nat) (x : Int) (h : 0 < k) : ((List.replicate k 0).set (k - 1) x).all Rep.ok = Rep.ok x := by
  rw [Bool.eq_iff_iff, List.all_eq_true]
  constructor
  · intro h1
    refine h1 x ?_
    rw [List.mem_iff_getElem]
    exact ⟨k - 1, by simp; omega, by simp⟩
  · intro h1 z hz
    rcases List.mem_or_eq_of_mem_set hz with h2 | h2
    · rw [(List.mem_replicate.1 h2).2]; rfl
    · rw [h2]; exact h1
theorem walk_forms (zm x zs : Int) (w : World) (_ : (Lit.int .i64 zm).wf = true) (_ : (Lit.int .i64 x).wf = true) (_ : (Lit.int .i64 zs).wf = true) :
    Calls Try.prog 5 #[.int .i64 zm, .int .i64 x, .int .i64 zs] w fun e w' => e = .returned (.bool true) ∧ Below w.heap.size w w' := by
  obtain ⟨k, hy, hk⟩ := low_bits zm 4 (by decide)
  obtain ⟨b, hz, hb⟩ := low_bits zs 4 (by decide)
  have M1 := fun W => make_ints k (by omega) W
  have M2 := fun W => make_bytes (40 + b) (by omega) W
  rw [show ((40 + b : Nat) : Int) = 40 + (b : Int) by omega] at M2
  have hlen : ((List.replicate k (0 : Int)).set (k - 1) x).length = k := by simp
  have hgood : Rep.good ((List.replicate k (0 : Int)).set (k - 1) x) = (decide (k = 12) && Rep.ok x) := by
    unfold Rep.good
    rw [hlen]
    by_cases h : k = 12
    · rw [all_row k x (by omega)]
    · simp [h]
  have P := fun v W hr => jput_any v ((List.replicate k (0 : Int)).set (k - 1) x) W hr
  have hzl := zeros_length (40 + b)
  refine forms_walk zm x zs _ (Rep.get (zeros (40 + b))).2 k b (Rep.get (zeros (40 + b))).1.length (Rep.good ((List.replicate k (0 : Int)).set (k - 1) x)) _ (zeros (40 + b)) _ w hy hk hz hb M1 M2 (fun W => zeros_text W (40 + b)) (Lib.hid ⟨rfl, hlen⟩) (Lib.hid P) (Lib.hid fun W => ?_) (Lib.hid ?_) (Lib.hid ?_) (Lib.hid ?_) (Lib.hid fun W => awake_any W)
  · refine (jget_any (zeros (40 + b)) W).mono ?_
    rintro e w' ⟨u, rfl, ho⟩
    obtain ⟨q, cap, rfl⟩ := ho.reads.form
    exact ⟨q, cap, rfl, ho.2⟩
  · rw [hgood]
    by_cases h : k = 12
    · simp only [h, decide_true, Bool.true_and]
      by_cases h1 : 0 ≤ x
      · by_cases h2 : x ≤ 4294967295
        · exact .inl ⟨trivial, h1, h2, (Rep.ok_iff x).2 ⟨h1, h2⟩⟩
        · exact .inr (.inl ⟨trivial, h1, by omega, by simp [Rep.ok, h2]⟩)
      · exact .inr (.inr (.inl ⟨trivial, by omega, by simp [Rep.ok, h1]⟩))
    · exact .inr (.inr (.inr ⟨h, by simp [h]⟩))
  · cases hg : Rep.good ((List.replicate k (0 : Int)).set (k - 1) x)
    · exact .inr ⟨rfl, (Rep.put_bad _ hg).2⟩
    · exact .inl ⟨rfl, (Rep.put_good _ hg).2⟩
  · by_cases h : b = 8
    · rw [Rep.get_good _ (by omega)]
      exact .inl ⟨h, Rep.nums_length 12 _ (by omega), rfl⟩
    · rw [Rep.get_bad _ (by omega)]
      exact .inr ⟨h, rfl, rfl⟩
end Go.Proofs.Ytcljipgnegahhaa.J
