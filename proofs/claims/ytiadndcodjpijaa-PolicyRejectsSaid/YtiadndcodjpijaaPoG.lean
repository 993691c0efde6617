/-
  The walk of the law of one option that is to be rejected, whatever else is there.
-/
import Derived.Test.YtiadndcodjpijaaPoC
import Derived.Test.YtiadndcodjpijaaPoMath5
import Derived.Test.YtiadndcodjpijaaSliceO
import Derived.Test.YtiadndcodjpijaaBits
import Derived.Test.YtiadndcodjpijaaMods
namespace Go.Proofs.Ytiadndcodjpijaa.Pl
open Go.RowKit
set_option maxHeartbeats 3200000 in
set_option maxRecDepth 100000 in
theorem rej_good (a : Pol.Lk) (O l r : List Pol.Op) (n i m : Nat) (kind at' : Int) (w : World) (PO : Hid (PolOk w)) (hn : Hid (O.length = n)) (hn6 : n ≤ 6) (hi : i ≤ n) (hl : Hid (O.take i = l)) (hr : Hid (O.drop i = r))
    (hK : bits .and .i64 kind 63 = (m : Int)) (hm : m < 64) (hx : wrap64 ((IntKind.u64.wrap at').tmod ((n : Int) + 1)) = (i : Int))
    (A : Hid (∀ W, Below w.heap.size w W → Calls Try.prog 10 #[lv a] W fun e w' => ∃ v, e = .returned (.tuple #[v, .int .i64 0]) ∧ ReadsO w' v O ∧ Below W.heap.size W w'))
    (J1 : Hid (∀ v W, Below w.heap.size w W → ReadsO W v (l ++ [(100 + (m : Int), [122, 122])] ++ r) → Calls Try.prog 13 #[lv Pol.own1, v] W fun e w' => ∃ u, e = .returned (.tuple #[.int .i64 2, u, .int .i64 0]) ∧ ReadsO w' u [(100 + (m : Int), [122, 122])] ∧ Below W.heap.size W w'))
    (way : Hid (n = 0 ∨ ∃ o R, O = o :: R ∧ (∀ v W, Below w.heap.size w W → ReadsO W v (O ++ [o]) → Calls Try.prog 13 #[lv Pol.own1, v] W fun e w' => ∃ u, e = .returned (.tuple #[.int .i64 2, u, .int .i64 0]) ∧ ReadsO w' u [o] ∧ Below W.heap.size W w') ∧
      (∀ v W, Below w.heap.size w W → ReadsO W v (O ++ [o]) → Calls Try.prog 12 #[v] W fun e w' => e = .returned (.tuple #[lv Pol.zero, .int .i64 1400]) ∧ Below W.heap.size W w'))) :
    Calls Try.prog 6 #[.agg (lcs a).toArray, .int .i64 kind, .int .i64 at'] w fun e w' => e = .returned (.bool true) ∧ Below w.heap.size w w' := by
  have K1 := Lib.hid (Lnk.new w a)
  have B1 := Lib.hid ((Below.refl w.heap.size w).alloc (Nat.le_refl _) (.cells (lcs a).toArray 23))
  obtain ⟨y, hy⟩ : ∃ y : Int, y = 100 + (m : Int) := ⟨_, rfl⟩
  have hy2 : 100 + (m : Int) = y := hy.symm
  rw [hy2] at J1
  have u1 : IntKind.u64.wrap ((n : Int) + 1) = (n : Int) + 1 := by
    show ((n : Int) + 1) % 18446744073709551616 = _
    omega
  clear hy
  have SM : Hid (∀ va vb W, ReadsO W va [(y, [122, 122])] → ReadsO W vb [(y, [122, 122])] → Calls Try.prog 15 #[va, vb] W fun e w' => e = .returned (.bool true) ∧ Below W.heap.size W w') := Lib.hid fun va vb W h1 h2 => by
    have h := sameO_any va vb _ _ W h1 h2 (by simp) (by simp)
    rwa [decide_eq_true rfl] at h
  go_enter Try.func6, Try.ntmps6
  go_upto_region 9 with (first | (refine step_link rfl _ rfl w.heap.size a rfl (by with_reducible exact K2.out) ?_) |
    (go_at_call 9; (refine (awake_any _ (Lib.hid (PO.out.later B1.out))).mono ?_); rintro e w2 ⟨rfl, hb2⟩; have K2 := Lib.hid (K1.out.below hb2); have B2 := Lib.hid (bel2 B1.out hb2); clear hb2) |
    (go_at_call 10; (with_reducible refine (A.out _ B2.out).mono ?_); rintro e w3 ⟨v3, rfl, r3, hb3⟩; obtain ⟨p3, cap3, rfl⟩ := reads_form r3; rw [hn.out] at r3; rw [hn.out]; have R3 := Lib.hid r3; have B3 := Lib.hid (bel2 B2.out hb3); clear r3 hb3) |
    (go_at_call 11; (refine (num_any _ _).mono ?_); rintro e w10 ⟨rfl, rfl⟩))
  obtain ⟨x1, s1, ra⟩ := slice_lo R3.out i (by rw [hn.out]; exact hi)
  obtain ⟨x2, s2, rb⟩ := slice_hi R3.out i (by rw [hn.out]; exact hi)
  rw [hl.out] at ra
  rw [hr.out] at rb
  have S1 := Lib.hid s1
  have S2 := Lib.hid s2
  have RA := Lib.hid ra
  have RB := Lib.hid rb
  have HLL : Hid (l.length + r.length = n) := Lib.hid (by rw [← hn.out, ← hl.out, ← hr.out]; simp; omega)
  obtain ⟨v0, hv0⟩ : ∃ v0, v0 = Value.slice none 0 0 := ⟨_, rfl⟩
  have O3 : Hid (OwnsO w3 w3 v0 []) := Lib.hid (hv0 ▸ OwnsO.nil w3)
  rw [← hv0, hx]
  clear s1 s2 ra rb hv0 K1 B1 K2 B2 A hx hK u1
  go_upto_region 16 with (first | (refine step_slice rfl _ _ _ rfl _ _ _ x1 rfl rfl rfl (S1.out _) ?_) | (refine step_slice rfl _ _ _ rfl _ _ _ x2 rfl rfl rfl (S2.out _) ?_) |
    (at_builtin; refine wp_catO rfl _ _ rfl [] l O3.out RA.out rfl rfl (by have := HLL.out; simp; omega) ?_; intro v4 w4 o4; rw [List.nil_append] at o4; have O4 := Lib.hid (o4.below ((Below.refl _ w4).alloc (Nat.le_refl _) (.cells #[.int .i64 y, .string ⟨#[122, 122]⟩] 36))); have L4 : Hid (ReadsO (w4.alloc (.cells #[.int .i64 y, .string ⟨#[122, 122]⟩] 36)) (.slice (some ⟨w4.heap.size, 0, none⟩) 1 1) [(y, [122, 122])]) := Lib.hid (reads_lit w4 [(y, [122, 122])] _ rfl); clear o4) |
    (at_builtin; refine wp_catO rfl _ _ rfl l [(y, [122, 122])] O4.out L4.out rfl rfl (by have := HLL.out; simp; omega) ?_; intro v5 w5 o5; have O5 := Lib.hid o5; have RB5 := Lib.hid (RB.out.below o5.2); clear o5) |
    (at_builtin; refine wp_catO rfl _ _ rfl (l ++ [(y, [122, 122])]) r O5.out RB5.out rfl rfl (by have := HLL.out; simp; omega) ?_; intro v6 w6 o6; have O6 := Lib.hid o6; have B6 := Lib.hid (bel2 B3.out o6.2); have W6 := Lib.hid o6.2; have R6 := Lib.hid (R3.out.below o6.2); clear o6) |
    (refine step_keep rfl _ _ rfl w6.heap.size Pol.zero Pol.own1 rfl rfl (by with_reducible exact kz w6) ?_; intro w7 n7 g7; have hq7 := kept_new rfl g7; have N7 := Lib.hid n7; have R7 := Lib.hid (R6.out.below hq7); have B7 := Lib.hid (bel2 B6.out hq7); have O7 := Lib.hid (O6.out.reads.below hq7); have W7 := Lib.hid (bel2 W6.out hq7); clear n7 g7 hq7) |
    (refine step_link rfl _ rfl w6.heap.size Pol.own1 rfl (by with_reducible exact N7.out) ?_) |
    (go_at_call 13; (with_reducible refine (J1.out _ _ B7.out O7.out).mono ?_); rintro e w8 ⟨u8, rfl, r8, hb8⟩; have Q8 := Lib.hid (r8.below ((Below.refl _ w8).alloc (Nat.le_refl _) (.cells #[.int .i64 y, .string ⟨#[122, 122]⟩] 36))); have L8 : Hid (ReadsO (w8.alloc (.cells #[.int .i64 y, .string ⟨#[122, 122]⟩] 36)) (.slice (some ⟨w8.heap.size, 0, none⟩) 1 1) [(y, [122, 122])]) := Lib.hid (reads_lit w8 [(y, [122, 122])] _ rfl); have N8 := Lib.hid (N7.out.below hb8); have R8 := Lib.hid (R7.out.below hb8); have B8 := Lib.hid (bel2 B7.out hb8); have W8 := Lib.hid (bel2 W7.out hb8); clear r8 hb8) |
    (go_at_call 15; (with_reducible refine (SM.out _ _ _ Q8.out L8.out).mono ?_); rintro e w9 ⟨rfl, hb9⟩; have hq9 := bel2 ((Below.refl w8.heap.size w8).alloc (Nat.le_refl _) _) hb9; have N9 := Lib.hid (N8.out.below hq9); have R9 := Lib.hid (R8.out.below hq9); have B9 := Lib.hid (bel2 B8.out hq9); have W9 := Lib.hid (bel2 W8.out hq9); clear hb9 hq9) |
    (go_at_call 11; (refine (num_any _ _).mono ?_); rintro e wn ⟨rfl, rfl⟩))
  clear S1 S2 RA RB O3 O4 L4 O5 RB5 O6 B6 R6 N7 R7 B7 O7 Q8 L8 N8 R8 B8 J1 SM W6 W7 W8
  rcases way.out with h0 | ⟨o, R, ho, j2, t2⟩
  · have q : ((n : Int) == 0) = true := by rw [beq_iff_eq]; omega
    go_wp2_with fail
    go_ret
    exact ⟨rfl, B9.out⟩
  · have h1 : 1 ≤ n := by have h := hn.out; rw [ho] at h; simp at h; omega
    have q : ((n : Int) == 0) = false := by rw [beq_eq_false_iff_ne]; omega
    have J2 := Lib.hid j2
    have T2 := Lib.hid t2
    obtain ⟨x3, s3, r3⟩ := slice_lo R3.out 1 (by rw [hn.out]; exact h1)
    have e1 : O.take 1 = [o] := by rw [ho]; rfl
    rw [e1] at r3
    have S3 := Lib.hid s3
    have RC9 : Hid (ReadsO w9 x3 [o]) := Lib.hid (r3.below (W9.out))
    obtain ⟨b3, f3, c3, hv3⟩ := reads_pos R9.out (by rw [hn.out]; exact h1)
    rw [hn.out] at hv3
    simp only [Value.slice.injEq] at hv3
    obtain ⟨rfl, _, rfl⟩ := hv3
    obtain ⟨z, d⟩ := o
    have hcs := reads_cells R9.out 0 (by rw [hn.out]; omega)
    have ho0 : O[0]'(by rw [hn.out]; omega) = (z, d) := by simp [ho]
    rw [ho0] at hcs
    have HCS := Lib.hid hcs
    have ix := opt_index b3 f3 n cap3 0 h1
    have SM2 : Hid (∀ va vb W, ReadsO W va [(z, d)] → ReadsO W vb [(z, d)] → Calls Try.prog 15 #[va, vb] W fun e w' => e = .returned (.bool true) ∧ Below W.heap.size W w') := Lib.hid fun va vb W h1 h2 => by
      have h := sameO_any va vb _ _ W h1 h2 (by simp) (by simp)
      rwa [decide_eq_true rfl] at h
    have O9 : Hid (OwnsO w9 (w9.alloc (.cells #[] 36)) (.slice (some ⟨w9.heap.size, 0, none⟩) 0 0) []) := Lib.hid (OwnsO.made w9)
    have RO9 := Lib.hid (R9.out.below ((Below.refl _ w9).alloc (Nat.le_refl _) (.cells #[] 36)))
    clear way hcs ho0 e1 j2 t2 s3 r3 ho R3 W9
    go_wp2_with (first | (refine step_slice rfl _ _ _ rfl _ _ _ x3 rfl rfl rfl (S3.out _) ?_) |
      (at_builtin; refine wp_catO rfl _ _ rfl [] O O9.out RO9.out rfl rfl (by have := hn.out; simp; omega) ?_; intro v10 w10 o10; rw [List.nil_append] at o10; have O10 := Lib.hid (o10.below ((Below.refl _ w10).alloc (Nat.le_refl _) (.cells #[.int .i64 z, .string ⟨d.toArray⟩] 36))); have L10 : Hid (ReadsO (w10.alloc (.cells #[.int .i64 z, .string ⟨d.toArray⟩] 36)) (.slice (some ⟨w10.heap.size, 0, none⟩) 1 1) [(z, d)]) := Lib.hid (reads_lit w10 [(z, d)] _ rfl); obtain ⟨hc10, _⟩ := bcell o10.2; have d0 := (hc10 b3 f3 (block_lt_of_cell HCS.out.1)).trans HCS.out.1; have d1 := (hc10 b3 (f3 + 1) (block_lt_of_cell HCS.out.2)).trans HCS.out.2; clear o10 hc10) |
      (at_builtin; refine wp_catO rfl _ _ rfl O [(z, d)] O10.out L10.out rfl rfl (by have := hn.out; simp; omega) ?_; intro v11 w11 o11; have O11 := Lib.hid o11.reads; have N11 := Lib.hid (N9.out.below o11.2); have RC11 := Lib.hid (RC9.out.below o11.2); have B11 := Lib.hid (bel2 B9.out o11.2); clear o11) |
      (refine step_link rfl _ rfl w6.heap.size Pol.own1 rfl (by with_reducible exact N11.out) ?_) |
      (go_at_call 13; (with_reducible refine (J2.out _ _ B11.out O11.out).mono ?_); rintro e w12 ⟨u12, rfl, r12, hb12⟩; have Q12 := Lib.hid r12; have O12 := Lib.hid (O11.out.below hb12); have RC12 := Lib.hid (RC11.out.below hb12); have B12 := Lib.hid (bel2 B11.out hb12); clear r12 hb12) |
      (go_at_call 12; (with_reducible refine (T2.out _ _ B12.out O12.out).mono ?_); rintro e w13 ⟨rfl, hb13⟩; have Q13 := Lib.hid (Q12.out.below hb13); have RC13 := Lib.hid (RC12.out.below hb13); have B13 := Lib.hid (bel2 B12.out hb13); clear hb13) |
      (refine step_keep rfl _ _ rfl w13.heap.size Pol.zero Pol.zero rfl rfl (by with_reducible exact kz w13) ?_; intro w14 n14 g14; have hq14 := kept_new rfl g14; have Q14 := Lib.hid (Q13.out.below hq14); have RC14 := Lib.hid (RC13.out.below hq14); have B14 := Lib.hid (bel2 B13.out hq14); clear n14 g14 hq14) |
      (go_at_call 15; (with_reducible refine (SM2.out _ _ _ Q14.out RC14.out).mono ?_); rintro e w15 ⟨rfl, hb15⟩; have B15 := Lib.hid (bel2 B14.out hb15); clear hb15) |
      (go_at_call 11; (refine (num_any _ _).mono ?_); rintro e wn ⟨rfl, rfl⟩))
    go_ret
    exact ⟨rfl, B15.out⟩
set_option maxHeartbeats 1600000 in
set_option maxRecDepth 100000 in
theorem rej_no (a : Pol.Lk) (kind at' : Int) (w : World) (PO : Hid (PolOk w))
    (A : Hid (∀ W, Below w.heap.size w W → Calls Try.prog 10 #[lv a] W fun e w' => ∃ v, e = .returned (.tuple #[v, .int .i64 1400]) ∧ ReadsO w' v [] ∧ Below W.heap.size W w')) :
    Calls Try.prog 6 #[.agg (lcs a).toArray, .int .i64 kind, .int .i64 at'] w fun e w' => e = .returned (.bool true) ∧ Below w.heap.size w w' := by
  have K1 := Lib.hid (Lnk.new w a)
  have B1 := Lib.hid ((Below.refl w.heap.size w).alloc (Nat.le_refl _) (.cells (lcs a).toArray 23))
  go_enter Try.func6, Try.ntmps6
  go_wp2_with (first | (refine step_link rfl _ rfl w.heap.size a rfl (by with_reducible exact K2.out) ?_) |
    (go_at_call 9; (refine (awake_any _ (Lib.hid (PO.out.later B1.out))).mono ?_); rintro e w2 ⟨rfl, hb2⟩; have K2 := Lib.hid (K1.out.below hb2); have B2 := Lib.hid (bel2 B1.out hb2); clear hb2) |
    (go_at_call 10; (with_reducible refine (A.out _ B2.out).mono ?_); rintro e w3 ⟨v3, rfl, r3, hb3⟩; obtain ⟨p3, cap3, rfl⟩ := reads_form r3; have B3 := Lib.hid (bel2 B2.out hb3); clear r3 hb3) |
    (go_at_call 11; (refine (num_any _ _).mono ?_); rintro e w10 ⟨rfl, rfl⟩))
  go_ret
  exact ⟨rfl, B3.out⟩
theorem walk_rejects (a : Pol.Lk) (kind at' : Int) (w : World) (PO : PolOk w) :
    Calls Try.prog 6 #[lv a, .int .i64 kind, .int .i64 at'] w fun e w' => e = .returned (.bool true) ∧ Below w.heap.size w w' := by
  by_cases hm : Pol.may a = true
  · have eA : Pol.ask a = (Pol.asks a, 0) := by unfold Pol.ask; rw [if_pos hm]
    have hlen := Pol.asks_length a
    obtain ⟨m, hK, hm63⟩ := low_63 kind
    obtain ⟨i, hx, hi⟩ := by_many at' (((Pol.asks a).length : Int) + 1) (by omega) (by omega)
    have hrt := Pol.right_asks a hm
    have hdat : ∀ o ∈ Pol.asks a, o.2.length ≤ 253 := fun o ho => by
      have h := Pol.fit_right o (hrt o ho)
      unfold Pol.fit at h
      simp at h
      omega
    have A : Hid (∀ W, Below w.heap.size w W → Calls Try.prog 10 #[lv a] W fun e w' => ∃ v, e = .returned (.tuple #[v, .int .i64 0]) ∧ ReadsO w' v (Pol.asks a) ∧ Below W.heap.size W w') := Lib.hid fun W k => by
      have h := PO.ask a W k
      rwa [eA] at h
    refine rej_good a (Pol.asks a) ((Pol.asks a).take i) ((Pol.asks a).drop i) (Pol.asks a).length i m kind at' w (Lib.hid PO) (Lib.hid rfl) hlen (by omega) (Lib.hid rfl) (Lib.hid rfl) hK hm63 hx A (Lib.hid fun v W k r => ?_) (Lib.hid ?_)
    · have hll : ((Pol.asks a).take i ++ [(100 + (m : Int), [122, 122])] ++ (Pol.asks a).drop i).length ≤ 1000000 := by simp; omega
      have h := PO.judge Pol.own1 v _ W k r hll
      rw [Pol.judge_among a hm _ _ (List.take_append_drop i _) (100 + (m : Int)) (by omega) (by omega) [122, 122] (by simp)] at h
      exact h
    · cases ho : Pol.asks a with
      | nil => exact .inl rfl
      | cons o R =>
        have hj := Pol.judge_twice a hm o R ho
        rw [ho] at hj
        have hll : ((o :: R) ++ [o]).length ≤ 1000000 := by rw [ho] at hlen; simp at hlen ⊢; omega
        have hom : o ∈ Pol.asks a := by rw [ho]; exact List.mem_cons_self
        have hmem : ∀ x ∈ (o :: R) ++ [o], x ∈ Pol.asks a := fun x hx => by
          rw [ho]
          rcases List.mem_append.1 hx with h | h
          · exact h
          · rw [List.mem_singleton.1 h]; exact List.mem_cons_self
        refine .inr ⟨o, R, rfl, fun v W k r => ?_, fun v W k r => ?_⟩
        · have h := PO.judge Pol.own1 v _ W k r hll
          rw [hj.1] at h
          exact h
        · have h := PO.taken v _ W k r hll (fun x hx => Pol.asks_range a x (hmem x hx)) (fun x hx => by have := hdat x (hmem x hx); omega)
          rw [hj.2] at h
          exact h
  · refine rej_no a kind at' w (Lib.hid PO) (Lib.hid fun W k => ?_)
    have h := PO.ask a W k
    have e : Pol.ask a = ([], 1400) := by unfold Pol.ask; rw [if_neg hm]
    rwa [e] at h
end Go.Proofs.Ytiadndcodjpijaa.Pl
