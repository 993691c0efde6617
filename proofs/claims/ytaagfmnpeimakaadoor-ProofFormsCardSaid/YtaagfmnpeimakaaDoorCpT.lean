/-
  The walk of the law of a challenge that nobody answers.
-/
import Derived.Test.YtaagfmnpeimakaaDoorCp9
import Derived.Test.YtaagfmnpeimakaaDoorMods
namespace Go.Proofs.YtaagfmnpeimakaaDoor.Prf
/-- Behind so many messages that nobody answered. -/
def worn (q : Pf) (k i : Nat) : Pf := { q with left := (k : Int) - (i : Int), failed := decide (k ≤ i) }
theorem worn_more (q : Pf) (k i : Nat) (hi : i + 1 < k) (hc : q.challenge ≠ []) (hp : q.proved = false) : again (worn q k i) = (worn q k (i + 1), (1, 1, q.challenge, q.name), 0) := by
  have e : decide (k ≤ i) = false := decide_eq_false (by omega)
  unfold again worn
  rw [if_neg (by simp only [e, hp]; simpa using hc), if_neg (by show ¬ (k : Int) - (i : Int) ≤ 1; omega)]
  have e2 : decide (k ≤ i + 1) = false := decide_eq_false (by omega)
  simp only [e, e2]
  rw [show (k : Int) - (i : Int) - 1 = (k : Int) - ((i + 1 : Nat) : Int) by omega]
theorem worn_last (q : Pf) (k i : Nat) (hi : i + 1 = k) (hc : q.challenge ≠ []) (hp : q.proved = false) : again (worn q k i) = (worn q k (i + 1), Chp.zero, 1601) := by
  have e : decide (k ≤ i) = false := decide_eq_false (by omega)
  unfold again worn
  rw [if_neg (by simp only [e, hp]; simpa using hc), if_pos (by show (k : Int) - (i : Int) ≤ 1; omega)]
  have e2 : decide (k ≤ i + 1) = true := decide_eq_true (by omega)
  simp only [e2]
  rw [show (k : Int) - (i : Int) - 1 = (k : Int) - ((i + 1 : Nat) : Int) by omega]
theorem worn_fit {q : Pf} (h : q.Fit) (k i : Nat) (hk : k ≤ 10) : (worn q k i).Fit :=
  ⟨h.name, h.secret, h.expect, h.challenge, by show (k : Int) - (i : Int) ≤ 10; omega, fun e => by have := of_decide_eq_false e; show 1 ≤ (k : Int) - (i : Int); omega⟩
end Go.Proofs.YtaagfmnpeimakaaDoor.Prf
namespace Go.Proofs.YtaagfmnpeimakaaDoor.Cp
open Go.RowKit
set_option maxRecDepth 100000
set_option maxHeartbeats 3200000 in
theorem tries_walk (z : Int) (t : ByteArray) (x : Nat) (hk : (x : Int) < 10) (C sc : List UInt8) (q0 q1 : Pf) (w : World) (T : Hid (Dg.Tab w)) (hm : wrap64 ((IntKind.u64.wrap z).tmod 10) = (x : Int))
    (hq1 : Hid (q1.Fit ∧ q1.challenge = C ∧ q1.name = me ∧ q1.proved = false ∧ C ≠ [] ∧ q1 = Prf.worn q1 (x + 1) 0))
    (AW : Hid (∀ W, Hid (Dg.Tab W) → Calls Tryd.prog 11 #[] W fun e w' => e = .returned (.bool true) ∧ Below W.heap.size W w'))
    (SC : Hid (∀ W, Calls Tryd.prog 23 #[.string t] W fun e w' => e = .returned (.string ⟨sc.toArray⟩) ∧ W = w'))
    (s1 : Sums [99] sc C)
    (N1 : Hid (∀ W, Calls Tryd.prog 8 #[.string { data := #[109, 101] }, .string { data := #[97] }, .string { data := #[98] }, .int .i64 (1 + (x : Int))] W (NewPost W q0)))
    (A1 : Hid (∀ B W, Rg B W q0 → Calls Tryd.prog 14 #[.pointer (some ⟨B, 0, none⟩)] W (MsgPost B W (q0, (0, 0, [], []), 1601))))
    (S1 : Hid (∀ B W, Rg B W q0 → Calls Tryd.prog 12 #[.pointer (some ⟨B, 0, none⟩), .string ⟨C.toArray⟩] W (MsgPost B W (q1, (1, 1, C, me), 0)))) :
    Calls Tryd.prog 4 #[.int .i64 z, .string t] w fun e w' => e = .returned (.bool true) ∧ Below w.heap.size w w' := by
  have EQ := eqC_yes 1 1 C me
  have E1 := EQ.1
  have E2 := EQ.2.1
  have E3 := guardC
  clear EQ
  go_enter Tryd.func4, Tryd.ntmps4
  go_wp2_with fail
  refine (AW.out w T).mono ?_
  rintro e w0 ⟨rfl, hb0⟩
  have B0 := Lib.hid hb0
  clear hb0 AW
  go_wp2_with fail
  refine (N1.out _).mono ?_
  rintro e w1 ⟨B, rfl, hB, hr1, hb1⟩
  have R1 := Lib.hid hr1
  have HB : Hid (w.heap.size ≤ B) := Lib.hid (Nat.le_trans B0.out.size hB)
  have B1 := Lib.hid (bel2 B0.out hb1)
  clear hr1 hb1 hB N1
  go_wp2_with fail
  refine (A1.out _ _ R1.out).mono ?_
  rintro e w2 ⟨rfl, hr2, hc2⟩
  have R2 := Lib.hid (hr2.below ((Below.refl w2.heap.size w2).alloc (Nat.le_refl _) (.cells #[.int .i64 0, .int .i64 0, .string { data := #[] }, .string { data := #[] }] 33)))
  have B2 := Lib.hid (bel2 (chg_bel B1.out HB.out hc2) ((Below.refl w2.heap.size w2).alloc (Nat.le_refl _) (.cells #[.int .i64 0, .int .i64 0, .string { data := #[] }, .string { data := #[] }] 33)))
  clear hr2 hc2 A1 R1
  go_wp2_with fail
  refine (SC.out _).mono ?_
  rintro e w9 ⟨rfl, rfl⟩
  clear SC
  go_wp2_with fail
  refine (S1.out _ _ R2.out).mono ?_
  rintro e w3 ⟨rfl, hr3, hc3⟩
  obtain ⟨cb, hcb⟩ : ∃ cb, cb = w3.heap.size := ⟨_, rfl⟩
  obtain ⟨w4, hw4⟩ : ∃ w4, w4 = w3.alloc (.cells #[.int .i64 1, .int .i64 1, .string ⟨C.toArray⟩, .string ⟨me.toArray⟩] 33) := ⟨_, rfl⟩
  have b4 : Below w3.heap.size w3 w4 := hw4 ▸ (Below.refl w3.heap.size w3).alloc (Nat.le_refl _) _
  have R4 := Lib.hid (hr3.below b4)
  have B4 := Lib.hid (bel2 (chg_bel B2.out HB.out hc3) b4)
  have Y4 : Hid (Arr cb w4 (mcs (1, 1, C, me))) := Lib.hid (by rw [hcb, hw4]; exact Arr.new w3 (mcs (1, 1, C, me)) _)
  have hne : Hid (¬ One B cb) := Lib.hid (fun e => by have e : cb = B := e; have := hr3.lt; omega)
  clear hr3 hc3 S1 R2 b4
  have AGM : Hid (∀ (j : Nat) W, j < x → Rg B W (Prf.worn q1 (x + 1) j) → Calls Tryd.prog 14 #[.pointer (some ⟨B, 0, none⟩)] W (MsgPost B W (Prf.worn q1 (x + 1) (j + 1), (1, 1, C, me), 0))) := Lib.hid fun j W hj hW => by
    obtain ⟨f1, f2, f3, f4, f5, f6⟩ := hq1.out
    have k := Again_any B _ W hW (Prf.worn_fit f1 (x + 1) j (by omega))
    rw [Prf.worn_more q1 (x + 1) j (by omega) (by rw [f2]; exact f5) f4, f2, f3] at k
    exact k
  have AGL : Hid (∀ W, Rg B W (Prf.worn q1 (x + 1) x) → Calls Tryd.prog 14 #[.pointer (some ⟨B, 0, none⟩)] W (MsgPost B W (Prf.worn q1 (x + 1) (x + 1), (0, 0, [], []), 1601))) := Lib.hid fun W hW => by
    obtain ⟨f1, f2, f3, f4, f5, f6⟩ := hq1.out
    have k := Again_any B _ W hW (Prf.worn_fit f1 (x + 1) x (by omega))
    rw [Prf.worn_last q1 (x + 1) x rfl (by rw [f2]; exact f5) f4] at k
    exact k
  have FL : Hid (∀ (j : Nat) W, Rg B W (Prf.worn q1 (x + 1) j) → Calls Tryd.prog 22 #[.pointer (some ⟨B, 0, none⟩)] W fun e w' => e = .returned (.bool (decide (x + 1 ≤ j))) ∧ W = w') := Lib.hid fun j W hW => failed_any B _ W hW
  have PR : Hid (∀ (j : Nat) W, Rg B W (Prf.worn q1 (x + 1) j) → Calls Tryd.prog 20 #[.pointer (some ⟨B, 0, none⟩)] W fun e w' => e = .returned (.bool false) ∧ W = w') := Lib.hid fun j W hW => by
    have k := proved_any B _ W hW
    rwa [show (Prf.worn q1 (x + 1) j).proved = false from hq1.out.2.2.2.1] at k
  rw [hq1.out.2.2.2.2.2] at R4
  clear hq1
  go_upto_region 7 with (fail)
  rw [← hw4, ← hcb]
  clear hw4 hcb
  go_wp2_with fail
  go_loopw [12, 13] (fun many i wr => ∃ j : Nat, i = .int .i64 (j : Int) ∧ ((j ≤ x ∧ many = .int .i64 (1 + (j : Int))) ∨ (j = x + 1 ∧ many = .int .i64 (1 + (x : Int)))) ∧ Rg B wr (Prf.worn q1 (x + 1) j) ∧ Arr cb wr (mcs (1, 1, C, me)) ∧ Below w.heap.size w wr) (fun _ i _ => 20 - (intOf i).toNat)
  case atStart => exact ⟨0, rfl, .inl ⟨Nat.zero_le _, rfl⟩, R4.out, Y4.out, B4.out⟩
  case round =>
    clear R4 Y4 B4 B0 B1 B2
    obtain ⟨j, rfl, hj, hr, ha, hb⟩ := hrel
    have R5 := Lib.hid hr
    have Y5 := Lib.hid ha
    have B5 := Lib.hid hb
    clear hr ha hb
    have F5 := Lib.hid (FL.out j _ R5.out)
    rcases hj with ⟨hj, rfl⟩ | ⟨rfl, rfl⟩
    · rw [decide_eq_false (by omega)] at F5
      by_cases hlt : j < x
      · have j1 : (j : Int) < 20 := by omega
        go_wp2_with (go_at_call 22; refine F5.out.mono ?_; rintro e w9 ⟨rfl, rfl⟩)
        refine (AGM.out j _ hlt R5.out).mono ?_
        rintro e w6 ⟨rfl, hr6, hc6⟩
        have b6 := (Below.refl w6.heap.size w6).alloc (Nat.le_refl _) (.cells #[.int .i64 1, .int .i64 1, .string ⟨C.toArray⟩, .string ⟨me.toArray⟩] 33)
        have Z6 := Lib.hid (Arr.new w6 (mcs (1, 1, C, me)) 33)
        have R6 := Lib.hid (hr6.below b6)
        have Y6 := Lib.hid ((Y5.out.chg hc6 hne.out).below b6)
        have B6 := Lib.hid (bel2 (chg_bel B5.out HB.out hc6) b6)
        have k0 := Y6.out.cell 0 _ rfl
        have k1 := Y6.out.cell 1 _ rfl
        have k2 := Y6.out.cell 2 _ rfl
        have k3 := Y6.out.cell 3 _ rfl
        have m0 := Z6.out.cell 0 _ rfl
        have m1 := Z6.out.cell 1 _ rfl
        have m2 := Z6.out.cell 2 _ rfl
        have m3 := Z6.out.cell 3 _ rfl
        clear hr6 hc6 b6
        go_wp2_with (go_at_call 10; refine (num_any _ _).mono ?_; rintro e w9 ⟨rfl, rfl⟩)
        go_roundw
        case rel => exact ⟨j + 1, by go_num, .inl ⟨by omega, by go_num⟩, R6.out, Y6.out, B6.out⟩
        case measure => simp [intOf]; omega
      · obtain rfl : j = x := by omega
        have j1 : (j : Int) < 20 := by omega
        go_wp2_with (go_at_call 22; refine F5.out.mono ?_; rintro e w9 ⟨rfl, rfl⟩)
        refine (AGL.out _ R5.out).mono ?_
        rintro e w6 ⟨rfl, hr6, hc6⟩
        have b6 := (Below.refl w6.heap.size w6).alloc (Nat.le_refl _) (.cells #[.int .i64 0, .int .i64 0, .string { data := #[] }, .string { data := #[] }] 33)
        have R6 := Lib.hid (hr6.below b6)
        have Y6 := Lib.hid ((Y5.out.chg hc6 hne.out).below b6)
        have B6 := Lib.hid (bel2 (chg_bel B5.out HB.out hc6) b6)
        clear hr6 hc6 b6
        go_wp2_with (go_at_call 10; refine (num_any _ _).mono ?_; rintro e w9 ⟨rfl, rfl⟩)
        go_roundw
        case rel => exact ⟨j + 1, by go_num, .inr ⟨rfl, by go_num⟩, R6.out, Y6.out, B6.out⟩
        case measure => simp [intOf]; omega
    · rw [decide_eq_true (Nat.le_refl _)] at F5
      have j1 : ((x + 1 : Nat) : Int) < 20 := by omega
      have P5 := Lib.hid (PR.out (x + 1) _ R5.out)
      go_wp2_with (first
        | (go_at_call 10; refine (num_any _ _).mono ?_; rintro e w9 ⟨rfl, rfl⟩)
        | (go_at_call 22; refine F5.out.mono ?_; rintro e w9 ⟨rfl, rfl⟩)
        | (go_at_call 20; refine P5.out.mono ?_; rintro e w9 ⟨rfl, rfl⟩))
      go_ret
      exact ⟨rfl, B5.out⟩
theorem walk_tries (z : Int) (t : ByteArray) (w : World) (_ : (Lit.int .i64 z).wf = true) (ht : t.size ≤ 140737488351232) (T : Dg.Tab w) :
    Calls Tryd.prog 4 #[.int .i64 z, .string t] w fun e w' => e = .returned (.bool true) ∧ Below w.heap.size w w' := by
  obtain ⟨tl, rfl⟩ : ∃ l : List UInt8, t = ⟨l.toArray⟩ := ⟨t.data.toList, by simp⟩
  rw [sz] at ht
  obtain ⟨x, hx, hx2⟩ := by_many z 10 (by decide) (by decide)
  have l2 := Prf.short_length tl
  obtain ⟨C, hC⟩ : ∃ C, C = [99] ++ Prf.short tl := ⟨_, rfl⟩
  have lC : 1 ≤ C.length ∧ C.length ≤ 41 := by rw [hC, List.length_append]; simp; omega
  have cne : C ≠ [] := by rw [hC]; simp
  obtain ⟨q0, hq0⟩ : ∃ q0, q0 = Prf.born me [97] [98] (1 + (x : Int)) := ⟨_, rfl⟩
  obtain ⟨q1, hq1⟩ : ∃ q1 : Pf, q1 = { q0 with challenge := C } := ⟨_, rfl⟩
  have fi : Prf.fine me [97] [98] (1 + (x : Int)) = true := by
    unfold Prf.fine
    rw [decide_eq_true (show 1 ≤ 1 + (x : Int) by omega), decide_eq_true (show 1 + (x : Int) ≤ 10 by omega)]
    rfl
  have f0 : q0.Fit := hq0 ▸ Prf.born_fit fi
  have f1 : q1.Fit := by rw [hq1]; exact ⟨f0.name, f0.secret, f0.expect, by show C.length ≤ 255; omega, f0.left, f0.low⟩
  have mc : Prf.mayCh C = true := by unfold Prf.mayCh; simp; omega
  have st : Prf.start q0 C = (q1, (1, 1, C, me), 0) := by
    unfold Prf.start
    rw [if_neg (by rw [mc]; decide), if_neg (by rw [hq0]; simp [Prf.born]), hq1, hq0]
    rfl
  have ag : Prf.again q0 = (q0, Chp.zero, 1601) := by
    unfold Prf.again
    rw [if_pos (.inl (by rw [hq0]; rfl))]
  have wo : q1 = Prf.worn q1 (x + 1) 0 := by
    rw [hq1, hq0]
    unfold Prf.worn Prf.born
    rw [decide_eq_false (by omega), show ((x + 1 : Nat) : Int) - ((0 : Nat) : Int) = 1 + (x : Int) by omega]
  refine tries_walk z _ x hx2 C (Prf.short tl) q0 q1 w (Lib.hid T) hx (Lib.hid ⟨f1, by rw [hq1], by rw [hq1, hq0]; rfl, by rw [hq1, hq0]; rfl, cne, wo⟩) (Lib.hid fun W hT => awake_any W hT) (Lib.hid fun W => short_any tl W (by omega)) ?_ ?_ ?_ ?_
  · rw [hC]; exact sums _ _ (by simp; omega)
  · exact Lib.hid fun W => hq0 ▸ new_good me [97] [98] (1 + (x : Int)) W fi
  · refine Lib.hid fun B W h => ?_
    have k := Again_any B q0 W h f0
    rwa [ag] at k
  · refine Lib.hid fun B W h => ?_
    have k := Start_any B q0 C W h (Nat.le_trans f0.name (by decide)) (by omega)
    rwa [st] at k
end Go.Proofs.YtaagfmnpeimakaaDoor.Cp
