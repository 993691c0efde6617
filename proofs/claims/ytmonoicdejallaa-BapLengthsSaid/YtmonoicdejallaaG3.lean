/-
  The walk of the law of answers.
-/
import Derived.Test.YtmonoicdejallaaZ9
import Derived.Test.YtmonoicdejallaaMasks
namespace Go.Proofs.Ytmonoicdejallaa.Z
open Go.RowKit
theorem by_pow (z : Int) (n : Int) (h0 : 0 < n) (h1 : n ≤ 8) : ∃ x : Nat, wrap64 ((IntKind.u64.wrap z).tmod n) = (x : Int) ∧ (x : Int) < n := by
  have hz : 0 ≤ IntKind.u64.wrap z := by
    show 0 ≤ z % 18446744073709551616
    omega
  generalize IntKind.u64.wrap z = y at *
  have hm : y.tmod n = y % n := Int.tmod_eq_emod_of_nonneg hz
  have a1 := Int.emod_nonneg y (show n ≠ 0 by omega)
  have a2 := Int.emod_lt_of_pos y h0
  refine ⟨(y % n).toNat, ?_, by omega⟩
  rw [hm, IntWalk.wrap64_in _ ⟨by omega, by omega⟩]
  omega
set_option maxRecDepth 100000 in
set_option maxHeartbeats 1600000 in
theorem ans_bad (code id ans i a : Int) (x : Nat) (w : World) (hx : wrap64 ((IntKind.u64.wrap code).tmod 8) = (x : Int)) (hx8 : x < 8) (hi : bits .and .i64 id 255 = i) (ha : bits .and .i64 ans 255 = a)
    (am : bits .and .i64 (1 + (x : Int)) 1 = 1) (hq : (a != 0) = true)
    (AW : Hid (∀ W, Calls Try.prog 16 #[] W fun e w' => e = .returned (.bool true) ∧ Below W.heap.size W w'))
    (P : Hid (∀ W, Calls Try.prog 8 #[.agg #[.int .i64 (1 + (x : Int)), .int .i64 i, .int .i64 a, .slice none 0 0]] W fun e w' => e = .returned (.tuple #[.string ⟨#[]⟩, .int .i64 900]) ∧ Below W.heap.size W w')) :
    Calls Try.prog 5 #[.int .i64 code, .int .i64 id, .int .i64 ans] w fun e w' => e = .returned (.bool true) ∧ Below w.heap.size w w' := by
  go_enter Try.func5, Try.ntmps5
  go_wp2_with fail
  refine (AW.out _).mono ?_
  rintro e w1 ⟨rfl, hb1⟩
  have B1 := Lib.hid hb1
  clear hb1
  go_wp2_with fail
  refine (P.out _).mono ?_
  rintro e w2 ⟨rfl, hb2⟩
  have B2 := Lib.hid (bel2 B1.out hb2)
  clear hb2
  go_wp2_with (go_at_call 12; refine (num_any _ _).mono ?_; rintro e w9 ⟨rfl, rfl⟩)
  go_ret
  exact ⟨rfl, B2.out⟩
set_option maxRecDepth 100000 in
set_option maxHeartbeats 3200000 in
theorem ans_req (code id ans i : Int) (x : Nat) (S T : ByteArray) (Tl Ul : List UInt8) (r : Bap.Bp) (w : World) (hx : wrap64 ((IntKind.u64.wrap code).tmod 8) = (x : Int)) (hx8 : x < 8) (hi : bits .and .i64 id 255 = i) (ha : bits .and .i64 ans 255 = 0)
    (am : bits .and .i64 (1 + (x : Int)) 1 = 1) (hS : (S.size : Int) = 4) (hT : S.extract 1 S.size = T) (hTl : T = ⟨Tl.toArray⟩) (r1 : Sums [0] Tl Ul)
    (AW : Hid (∀ W, Calls Try.prog 16 #[] W fun e w' => e = .returned (.bool true) ∧ Below W.heap.size W w'))
    (P : Hid (∀ W, Calls Try.prog 8 #[.agg #[.int .i64 (1 + (x : Int)), .int .i64 i, .int .i64 0, .slice none 0 0]] W fun e w' => e = .returned (.tuple #[.string S, .int .i64 0]) ∧ Below W.heap.size W w'))
    (G : Hid (∀ W, Calls Try.prog 10 #[.string S] W (BpPost ((1 + (x : Int), i, 0, []), 0) W)))
    (G2 : Hid (∀ W, Calls Try.prog 10 #[.string ⟨Ul.toArray⟩] W (BpPost (r, 900) W)))
    (SM : Hid (∀ W va, ReadsO W va [] → Calls Try.prog 13 #[.agg #[.int .i64 (1 + (x : Int)), .int .i64 i, .int .i64 0, va], .agg #[.int .i64 (1 + (x : Int)), .int .i64 i, .int .i64 0, .slice none 0 0]] W fun e w' => e = .returned (.bool true) ∧ Below W.heap.size W w')) :
    Calls Try.prog 5 #[.int .i64 code, .int .i64 id, .int .i64 ans] w fun e w' => e = .returned (.bool true) ∧ Below w.heap.size w w' := by
  unfold Sums at r1
  have q1 : (1 : Int) ≤ (S.size : Int) := by omega
  go_enter Try.func5, Try.ntmps5
  go_wp2_with fail
  refine (AW.out _).mono ?_
  rintro e w1 ⟨rfl, hb1⟩
  have B1 := Lib.hid hb1
  clear hb1
  go_wp2_with fail
  refine (P.out _).mono ?_
  rintro e w2 ⟨rfl, hb2⟩
  have B2 := Lib.hid (bel2 B1.out hb2)
  clear hb2
  go_wp2_with fail
  refine (G.out _).mono ?_
  rintro e w3 ⟨v3, rfl, ho3⟩
  obtain ⟨p3, cap3, rfl⟩ := ho3.form2
  have A3 := (Below.refl w3.heap.size w3).alloc (Nat.le_refl _) (.cells #[.int .i64 (1 + (x : Int)), .int .i64 i, .int .i64 0, .slice p3 0 cap3] 24)
  have B3 := Lib.hid (bel2 (bel2 B2.out ho3.2) A3)
  have Q3 := Lib.hid (ho3.reads.below A3)
  have Y3 := Lib.hid (Box.new w3 [.int .i64 (1 + (x : Int)), .int .i64 i, .int .i64 0, .slice p3 0 cap3] 24)
  clear ho3 A3
  go_wp2_with fail
  refine (G2.out _).mono ?_
  rintro e w4 ⟨v4, rfl, ho4⟩
  obtain ⟨p4, cap4, rfl⟩ := ho4.form2
  have A4 := bel2 ho4.2 ((Below.refl w4.heap.size w4).alloc (Nat.le_refl _) (.cells #[.int .i64 r.1, .int .i64 r.2.1, .int .i64 r.2.2.1, .slice p4 r.2.2.2.length cap4] 24))
  have B4 := Lib.hid (bel2 B3.out A4)
  have Q4 := Lib.hid (Q3.out.below A4)
  have Y4 := Y3.out.below ho4.2
  have z4 := Y4.lt
  have m0 := Y4 0 _ rfl
  have m1 := Y4 1 _ rfl
  have m2 := Y4 2 _ rfl
  have m3 := Y4 3 _ rfl
  clear ho4 A4 Y4
  go_wp2_with (first | (go_at_call 12; refine (num_any _ _).mono ?_; rintro e w9 ⟨rfl, rfl⟩) | (go_at_call 13; refine (SM.out _ _ Q4.out).mono ?_; rintro e w6 ⟨rfl, hb6⟩; have B6 := Lib.hid (bel2 B4.out hb6); clear hb6))
  go_ret
  exact ⟨rfl, B6.out⟩
set_option maxRecDepth 100000 in
set_option maxHeartbeats 3200000 in
theorem ans_resp (code id ans i a : Int) (x : Nat) (S T : ByteArray) (Tl Ul : List UInt8) (r : Bap.Bp) (w : World) (hx : wrap64 ((IntKind.u64.wrap code).tmod 8) = (x : Int)) (hx8 : x < 8) (hi : bits .and .i64 id 255 = i) (ha : bits .and .i64 ans 255 = a)
    (am : bits .and .i64 (1 + (x : Int)) 1 = 0) (hS : (S.size : Int) = 5) (hT : S.extract 1 S.size = T) (hTl : T = ⟨Tl.toArray⟩) (r1 : Sums [0] Tl Ul)
    (AW : Hid (∀ W, Calls Try.prog 16 #[] W fun e w' => e = .returned (.bool true) ∧ Below W.heap.size W w'))
    (P : Hid (∀ W, Calls Try.prog 8 #[.agg #[.int .i64 (1 + (x : Int)), .int .i64 i, .int .i64 a, .slice none 0 0]] W fun e w' => e = .returned (.tuple #[.string S, .int .i64 0]) ∧ Below W.heap.size W w'))
    (G : Hid (∀ W, Calls Try.prog 10 #[.string S] W (BpPost ((1 + (x : Int), i, a, []), 0) W)))
    (G2 : Hid (∀ W, Calls Try.prog 10 #[.string ⟨Ul.toArray⟩] W (BpPost (r, 900) W)))
    (SM : Hid (∀ W va, ReadsO W va [] → Calls Try.prog 13 #[.agg #[.int .i64 (1 + (x : Int)), .int .i64 i, .int .i64 a, va], .agg #[.int .i64 (1 + (x : Int)), .int .i64 i, .int .i64 a, .slice none 0 0]] W fun e w' => e = .returned (.bool true) ∧ Below W.heap.size W w')) :
    Calls Try.prog 5 #[.int .i64 code, .int .i64 id, .int .i64 ans] w fun e w' => e = .returned (.bool true) ∧ Below w.heap.size w w' := by
  unfold Sums at r1
  have q1 : (1 : Int) ≤ (S.size : Int) := by omega
  go_enter Try.func5, Try.ntmps5
  go_wp2_with fail
  refine (AW.out _).mono ?_
  rintro e w1 ⟨rfl, hb1⟩
  have B1 := Lib.hid hb1
  clear hb1
  go_wp2_with fail
  refine (P.out _).mono ?_
  rintro e w2 ⟨rfl, hb2⟩
  have B2 := Lib.hid (bel2 B1.out hb2)
  clear hb2
  go_wp2_with fail
  refine (G.out _).mono ?_
  rintro e w3 ⟨v3, rfl, ho3⟩
  obtain ⟨p3, cap3, rfl⟩ := ho3.form2
  have A3 := (Below.refl w3.heap.size w3).alloc (Nat.le_refl _) (.cells #[.int .i64 (1 + (x : Int)), .int .i64 i, .int .i64 a, .slice p3 0 cap3] 24)
  have B3 := Lib.hid (bel2 (bel2 B2.out ho3.2) A3)
  have Q3 := Lib.hid (ho3.reads.below A3)
  have Y3 := Lib.hid (Box.new w3 [.int .i64 (1 + (x : Int)), .int .i64 i, .int .i64 a, .slice p3 0 cap3] 24)
  clear ho3 A3
  go_wp2_with fail
  refine (G2.out _).mono ?_
  rintro e w4 ⟨v4, rfl, ho4⟩
  obtain ⟨p4, cap4, rfl⟩ := ho4.form2
  have A4 := bel2 ho4.2 ((Below.refl w4.heap.size w4).alloc (Nat.le_refl _) (.cells #[.int .i64 r.1, .int .i64 r.2.1, .int .i64 r.2.2.1, .slice p4 r.2.2.2.length cap4] 24))
  have B4 := Lib.hid (bel2 B3.out A4)
  have Q4 := Lib.hid (Q3.out.below A4)
  have Y4 := Y3.out.below ho4.2
  have z4 := Y4.lt
  have m0 := Y4 0 _ rfl
  have m1 := Y4 1 _ rfl
  have m2 := Y4 2 _ rfl
  have m3 := Y4 3 _ rfl
  clear ho4 A4 Y4
  go_wp2_with (first | (go_at_call 12; refine (num_any _ _).mono ?_; rintro e w9 ⟨rfl, rfl⟩) | (go_at_call 13; refine (SM.out _ _ Q4.out).mono ?_; rintro e w6 ⟨rfl, hb6⟩; have B6 := Lib.hid (bel2 B4.out hb6); clear hb6))
  go_ret
  exact ⟨rfl, B6.out⟩
theorem code_none (c i a : Int) (hc : Bap.gd c i = true) (hf : Bap.fit c a = true) : Bap.code (c, i, a, []) = 0 ∧ (Bap.put (c, i, a, [])) = Ctl.head c i ((Bap.lead c a).length + 4) ++ Bap.lead c a := by
  have hl : (Bap.lead c a).length ≤ 1 := by
    cases h : Bap.resp c
    · rw [Bap.lead_req c a h]; decide
    · rw [Bap.lead_resp c a h]; exact Nat.le_refl 1
  have hr : Bap.rest (c, i, a, []) = Bap.lead c a := by unfold Bap.rest; simp [Opt.wires_nil]
  rcases Bap.code_ways c i a [] with ⟨h, _⟩ | ⟨_, _, _, h4, _⟩ | ⟨_, _, _, _, e⟩
  · rw [hc, hf] at h
    rcases h with h | h | h
    · cases h
    · cases h
    · exact absurd Ctl.code_nil h
  · rw [hr] at h4; omega
  · refine ⟨e, ?_⟩
    rw [Bap.put_good _ e]
    unfold Bap.wire
    rw [hr]
theorem walk_answers (code id ans : Int) (w : World) (_ : (Lit.int .i64 code).wf = true) (_ : (Lit.int .i64 id).wf = true) (_ : (Lit.int .i64 ans).wf = true) :
    Calls Try.prog 5 #[.int .i64 code, .int .i64 id, .int .i64 ans] w fun e w' => e = .returned (.bool true) ∧ Below w.heap.size w w' := by
  obtain ⟨x, hx, hx8⟩ := by_pow code 8 (by omega) (by omega)
  have hi := i64_and255 id
  have ha := i64_and255 ans
  obtain ⟨i, ei⟩ : ∃ i, i = id % 256 := ⟨_, rfl⟩
  obtain ⟨a, ea⟩ : ∃ a, a = ans % 256 := ⟨_, rfl⟩
  rw [← ei] at hi
  rw [← ea] at ha
  have i1 : 0 ≤ i := by omega
  have i2 : i ≤ 255 := by omega
  have a1 : 0 ≤ a := by omega
  have a2 : a ≤ 255 := by omega
  clear ei ea
  have AW := Lib.hid fun W => awake_any W
  have hg : Bap.gd (1 + (x : Int)) i = true := (Bap.gd_iff _ _).2 ⟨by omega, by omega, i1, i2⟩
  have am := and_one (1 + (x : Int))
  have P := fun W => bput_any (1 + (x : Int)) i a (.slice none 0 0) [] W (reads_nil W) (by decide)
  have tail : ∀ (b y z : UInt8) (q : List UInt8), Bap.get ([0] ++ (b :: y :: z :: q)) = (Bap.zero, 900) := fun b y z q => by
    show Bap.get (0 :: b :: y :: z :: q) = _
    rw [Bap.get_four, if_pos (.inr (.inr (Bool.eq_false_iff.2 fun e => by have := (Bap.gd_iff _ _).1 e; simp at this)))]
  cases hr : Bap.resp (1 + (x : Int))
  · have hm : (1 + (x : Int)) % 2 = 1 := by
      unfold Bap.resp at hr
      have := beq_eq_false_iff_ne.1 hr
      omega
    rw [hm] at am
    by_cases h0 : a = 0
    · subst h0
      obtain ⟨e1, e2⟩ := code_none (1 + (x : Int)) i 0 hg (by rw [Bap.fit_req _ _ hr]; rfl)
      have gb := Bap.get_wire _ [] e1
      rw [List.append_nil, ← Bap.put_good _ e1] at gb
      rw [e1] at P
      rw [e2, Bap.lead_req _ _ hr, List.append_nil] at P gb
      have G := fun W => bget_any (Ctl.head (1 + (x : Int)) i (([] : List UInt8).length + 4)) W (by rw [Ctl.head_length]; decide)
      rw [gb] at G
      have G2 := fun W => bget_any ([0] ++ (Ctl.head (1 + (x : Int)) i (([] : List UInt8).length + 4)).drop 1) W (by simp [Ctl.head])
      have gt : Bap.get ([0] ++ (Ctl.head (1 + (x : Int)) i (([] : List UInt8).length + 4)).drop 1) = (Bap.zero, 900) := tail _ _ _ _
      rw [gt] at G2
      exact ans_req code id ans i x ⟨(Ctl.head (1 + (x : Int)) i (([] : List UInt8).length + 4)).toArray⟩ _ _ _ _ w hx (by omega) hi ha am (by rw [sz, Ctl.head_length]; rfl) (tail_list _ 1) rfl (sums [0] _ (by simp [Ctl.head])) AW (Lib.hid P) (Lib.hid G) (Lib.hid G2) (Lib.hid fun W va hv => sameb_any _ _ _ va _ [] W hv (reads_nil W) (by decide))
    · obtain ⟨e1, e2⟩ := code_no (1 + (x : Int)) i a [] (.inl (by rw [Bap.fit_req _ _ hr]; simpa using h0))
      rw [e1, e2] at P
      exact ans_bad code id ans i a x w hx (by omega) hi ha am (by simpa using h0) AW (Lib.hid P)
  · have hm : (1 + (x : Int)) % 2 = 0 := by
      unfold Bap.resp at hr
      simpa using hr
    rw [hm] at am
    obtain ⟨e1, e2⟩ := code_none (1 + (x : Int)) i a hg (by rw [Bap.fit_resp _ _ hr]; exact (Bap.byte_iff a).2 ⟨a1, a2⟩)
    have gb := Bap.get_wire _ [] e1
    rw [List.append_nil, ← Bap.put_good _ e1] at gb
    rw [e1] at P
    rw [e2, Bap.lead_resp _ _ hr] at P gb
    have hlen : (Ctl.head (1 + (x : Int)) i ([UInt8.ofNat a.toNat].length + 4) ++ [UInt8.ofNat a.toNat]).length = 5 := by simp [Ctl.head]
    have G := fun W => bget_any (Ctl.head (1 + (x : Int)) i ([UInt8.ofNat a.toNat].length + 4) ++ [UInt8.ofNat a.toNat]) W (by rw [hlen]; decide)
    rw [gb] at G
    have gt : Bap.get ([0] ++ (Ctl.head (1 + (x : Int)) i ([UInt8.ofNat a.toNat].length + 4) ++ [UInt8.ofNat a.toNat]).drop 1) = (Bap.zero, 900) := tail _ _ _ _
    generalize Ctl.head (1 + (x : Int)) i ([UInt8.ofNat a.toNat].length + 4) ++ [UInt8.ofNat a.toNat] = S at *
    have hd : (S.drop 1).length ≤ 5 := by rw [List.length_drop]; omega
    have G2 := fun W => bget_any ([0] ++ S.drop 1) W (by rw [List.length_append, List.length_singleton]; omega)
    rw [gt] at G2
    exact ans_resp code id ans i a x ⟨S.toArray⟩ _ _ _ _ w hx (by omega) hi ha am (by rw [sz, hlen]; rfl) (tail_list _ 1) rfl (sums [0] _ (by simp; omega)) AW (Lib.hid P) (Lib.hid G) (Lib.hid G2) (Lib.hid fun W va hv => sameb_any _ _ _ va _ [] W hv (reads_nil W) (by decide))
end Go.Proofs.Ytmonoicdejallaa.Z
