/-
  The walk of the law of one wrong answer.
-/
import Derived.Test.YtaagfmnpeimakaaDoorCp9
namespace Go.Proofs.YtaagfmnpeimakaaDoor.Cp
open Go.RowKit
set_option maxRecDepth 100000
theorem Out.one {n : Nat} {W : World} {v : Value} {m : Prf.Msg} (h : Out n W v [m]) : ∃ g, v = .slice (some ⟨g, 0, none⟩) 1 1 ∧ n ≤ g ∧ Arr g W (mcs m) := by
  rcases h with ⟨e, _⟩ | ⟨g, m2, e, h1, h2, h3⟩
  · cases e
  · obtain rfl : m = m2 := by simpa using e
    exact ⟨g, h1, h2, h3⟩
theorem Out.none {n : Nat} {W : World} {v : Value} (h : Out n W v []) : v = .slice none 0 0 := by
  rcases h with ⟨_, h⟩ | ⟨_, _, e, _⟩
  · exact h
  · cases e
set_option maxHeartbeats 3200000 in
theorem wrong_walk (s t : ByteArray) (C V D sc sv : List UInt8) (q0 q1 q2 : Pf) (w : World) (T : Hid (Dg.Tab w)) (hp : q2.proved = false) (hq : q2.failed = true)
    (AW : Hid (∀ W, Hid (Dg.Tab W) → Calls Tryd.prog 11 #[] W fun e w' => e = .returned (.bool true) ∧ Below W.heap.size W w'))
    (SC : Hid (∀ W, Calls Tryd.prog 23 #[.string t] W fun e w' => e = .returned (.string ⟨sc.toArray⟩) ∧ W = w'))
    (SV : Hid (∀ W, Calls Tryd.prog 23 #[.string s] W fun e w' => e = .returned (.string ⟨sv.toArray⟩) ∧ W = w'))
    (s1 : Sums [99] sc C) (s2 : Sums [118] sv V)
    (N1 : Hid (∀ W, Calls Tryd.prog 8 #[.string { data := #[109, 101] }, .string { data := #[97] }, .string { data := #[98] }, .int .i64 3] W (NewPost W q0)))
    (S1 : Hid (∀ B W, Rg B W q0 → Calls Tryd.prog 12 #[.pointer (some ⟨B, 0, none⟩), .string ⟨C.toArray⟩] W (MsgPost B W (q1, (1, 1, C, me), 0))))
    (CH : Hid (∀ W, Calls Tryd.prog 16 #[.int .i64 1, .string { data := #[98] }, .string ⟨C.toArray⟩] W fun e w' => e = .returned (.string ⟨D.toArray⟩) ∧ Below W.heap.size W w'))
    (T1 : Hid (V ≠ D → ∀ B W, Rg B W q1 → Hid (Dg.Tab W) → Calls Tryd.prog 17 #[.pointer (some ⟨B, 0, none⟩), mv (2, 1, V, [])] W (TakePost B W (q2, [(4, 1, [], Prf.no)], 0))))
    (T2 : Hid (∀ B W, Rg B W q2 → Hid (Dg.Tab W) → Calls Tryd.prog 17 #[.pointer (some ⟨B, 0, none⟩), mv (2, 1, D, [])] W (TakePost B W (q2, [], 0)))) :
    Calls Tryd.prog 6 #[.string s, .string t] w fun e w' => e = .returned (.bool true) ∧ Below w.heap.size w w' := by
  go_enter Tryd.func6, Tryd.ntmps6
  go_wp2_with fail
  refine (AW.out w T).mono ?_
  rintro e w0 ⟨rfl, hb0⟩
  have B0 := Lib.hid hb0
  clear hb0 AW
  go_wp2_with fail
  refine (SC.out _).mono ?_
  rintro e w9 ⟨rfl, rfl⟩
  clear SC
  go_wp2_with fail
  refine (N1.out _).mono ?_
  rintro e w1 ⟨B, rfl, hB, hr1, hb1⟩
  have R1 := Lib.hid hr1
  have HB : Hid (w.heap.size ≤ B) := Lib.hid (Nat.le_trans B0.out.size hB)
  have B1 := Lib.hid (bel2 B0.out hb1)
  clear hr1 hb1 hB N1
  go_wp2_with fail
  refine (S1.out _ _ R1.out).mono ?_
  rintro e w2 ⟨rfl, hr2, hc2⟩
  have R2 := Lib.hid (hr2.below ((Below.refl w2.heap.size w2).alloc (Nat.le_refl _) (.cells #[.int .i64 1, .int .i64 1, .string ⟨C.toArray⟩, .string { data := #[109, 101] }] 33)))
  have B2 := Lib.hid (bel2 (chg_bel B1.out HB.out hc2) ((Below.refl w2.heap.size w2).alloc (Nat.le_refl _) (.cells #[.int .i64 1, .int .i64 1, .string ⟨C.toArray⟩, .string { data := #[109, 101] }] 33)))
  clear hr2 hc2 S1 R1
  go_wp2_with fail
  refine (CH.out _).mono ?_
  rintro e w3 ⟨rfl, hb3⟩
  have R3 := Lib.hid (R2.out.below hb3)
  have B3 := Lib.hid (bel2 B2.out hb3)
  clear hb3 CH R2
  go_wp2_with fail
  refine (SV.out _).mono ?_
  rintro e w9 ⟨rfl, rfl⟩
  clear SV
  by_cases h : V = D
  · subst h
    clear T1 T2
    go_wp2_with fail
    go_ret
    exact ⟨rfl, B3.out⟩
  · have T1 := Lib.hid (T1.out h)
    have hvd : (V == D) = false := by simpa using h
    go_wp2_with fail
    refine (T1.out _ _ R3.out (Lib.hid (T.out.below B3.out))).mono ?_
    rintro e w4 ⟨v4, rfl, ho4, hr4, hc4⟩
    obtain ⟨g, rfl, hg, ha⟩ := ho4.one
    have A4 := Lib.hid ha
    have R4 := Lib.hid hr4
    have B4 := Lib.hid (chg_bel B3.out HB.out hc4)
    have hne : Hid (¬ One B g) := Lib.hid (fun e => by have e : g = B := e; have := R3.out.lt; omega)
    clear ho4 hr4 hc4 hg ha T1 R3
    go_wp2_with fail
    refine (T2.out _ _ R4.out (Lib.hid (T.out.below B4.out))).mono ?_
    rintro e w5 ⟨v5, rfl, ho5, hr5, hc5⟩
    obtain rfl := ho5.none
    have R5 := Lib.hid hr5
    have B5 := Lib.hid (chg_bel B4.out HB.out hc5)
    have A5 := Lib.hid (Arr.chg A4.out hc5 hne.out)
    have k0 := A5.out.cell 0 _ rfl
    have zg := A5.out.lt
    have ix := index_one g
    have PV := Lib.hid (proved_any _ _ _ R5.out)
    have FV := Lib.hid (failed_any _ _ _ R5.out)
    rw [hp] at PV
    rw [hq] at FV
    clear ho5 hr5 hc5 T2 R4 A4
    go_wp2_with (first
      | (go_at_call 10; refine (num_any _ _).mono ?_; rintro e w9 ⟨rfl, rfl⟩)
      | (go_at_call 20; refine PV.out.mono ?_; rintro e w9 ⟨rfl, rfl⟩)
      | (go_at_call 22; refine FV.out.mono ?_; rintro e w9 ⟨rfl, rfl⟩))
    go_ret
    exact ⟨rfl, B5.out⟩
theorem walk_wrong (s t : ByteArray) (w : World) (hs : s.size ≤ 140737488351232) (ht : t.size ≤ 140737488351232) (T : Dg.Tab w) :
    Calls Tryd.prog 6 #[.string s, .string t] w fun e w' => e = .returned (.bool true) ∧ Below w.heap.size w w' := by
  obtain ⟨sl, rfl⟩ : ∃ l : List UInt8, s = ⟨l.toArray⟩ := ⟨s.data.toList, by simp⟩
  obtain ⟨tl, rfl⟩ : ∃ l : List UInt8, t = ⟨l.toArray⟩ := ⟨t.data.toList, by simp⟩
  rw [sz] at hs ht
  have l1 := Prf.short_length sl
  have l2 := Prf.short_length tl
  obtain ⟨C, hC⟩ : ∃ C, C = [99] ++ Prf.short tl := ⟨_, rfl⟩
  obtain ⟨V, hV⟩ : ∃ V, V = [118] ++ Prf.short sl := ⟨_, rfl⟩
  have lC : 1 ≤ C.length ∧ C.length ≤ 41 := by rw [hC, List.length_append]; simp; omega
  have lV : 1 ≤ V.length ∧ V.length ≤ 41 := by rw [hV, List.length_append]; simp; omega
  have cne : C ≠ [] := by rw [hC]; simp
  obtain ⟨q0, hq0⟩ : ∃ q0, q0 = Prf.born me [97] [98] 3 := ⟨_, rfl⟩
  obtain ⟨q1, hq1⟩ : ∃ q1 : Pf, q1 = { q0 with challenge := C } := ⟨_, rfl⟩
  obtain ⟨q2, hq2⟩ : ∃ q2 : Pf, q2 = { q1 with failed := true } := ⟨_, rfl⟩
  have f0 : q0.Fit := hq0 ▸ Prf.born_fit (by decide)
  have f1 : q1.Fit := by rw [hq1]; exact ⟨f0.name, f0.secret, f0.expect, by show C.length ≤ 255; omega, f0.left, f0.low⟩
  have f2 : q2.Fit := by rw [hq2]; exact ⟨f1.name, f1.secret, f1.expect, f1.challenge, f1.left, fun k => by cases k⟩
  have mc : Prf.mayCh C = true := by unfold Prf.mayCh; simp; omega
  have st : Prf.start q0 C = (q1, (1, 1, C, me), 0) := by
    unfold Prf.start
    rw [if_neg (by rw [mc]; decide), if_neg (by rw [hq0]; decide), hq1, hq0]
    rfl
  refine wrong_walk _ _ C V (Prf.sum 1 [98] C) (Prf.short tl) (Prf.short sl) q0 q1 q2 w (Lib.hid T) (by rw [hq2, hq1, hq0]; rfl) (by rw [hq2]) (Lib.hid fun W hT => awake_any W hT) (Lib.hid fun W => short_any tl W (by omega)) (Lib.hid fun W => short_any sl W (by omega)) ?_ ?_ ?_ ?_ ?_ ?_ ?_
  · rw [hC]; exact sums _ _ (by simp; omega)
  · rw [hV]; exact sums _ _ (by simp; omega)
  · exact Lib.hid fun W => hq0 ▸ new_good me [97] [98] 3 W (by decide)
  · refine Lib.hid fun B W h => ?_
    have k := Start_any B q0 C W h (Nat.le_trans f0.name (by decide)) (by omega)
    rwa [st] at k
  · exact Lib.hid fun W => Dg.rchap_any 1 [98] C W (by simp; omega)
  · refine Lib.hid fun hne B W h hT => ?_
    have k := Take_any B q1 1 V [] W h 2 f1 hT (by omega)
    rw [Prf.take_wrong q1 V [] (by rw [hq1, hq0]; rfl) (by rw [hq1]; exact cne) (by rw [hq1, hq0]; rfl) (by rw [hq1, hq0]; exact hne) (by omega) (by decide)] at k
    rwa [hq2]
  · refine Lib.hid fun B W h hT => ?_
    have k := Take_any B q2 1 (Prf.sum 1 [98] C) [] W h 2 f2 hT (by rw [Prf.sum_length]; decide)
    rwa [Prf.take_behind q2 _ [] (by rw [hq2]) (by rw [Prf.sum_length]; decide) (by decide)] at k
end Go.Proofs.YtaagfmnpeimakaaDoor.Cp
