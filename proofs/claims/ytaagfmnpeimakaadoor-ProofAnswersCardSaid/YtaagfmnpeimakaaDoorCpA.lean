/-
  The walk of the law of challenges that are answered.
-/
import Derived.Test.YtaagfmnpeimakaaDoorCp9
import Derived.Test.YtaagfmnpeimakaaDoorReads
import Derived.Test.YtaagfmnpeimakaaDoorBulk
import Derived.Test.YtaagfmnpeimakaaDoorBits
namespace Go.Proofs.YtaagfmnpeimakaaDoor.Cp
open Go.RowKit
set_option maxRecDepth 100000
set_option maxHeartbeats 3200000 in
theorem answers_walk (id : Int) (s : ByteArray) (p : Option Addr) (n cap : Nat) (A : Nat → Addr) (l : Nat → List UInt8) (S ss : List UInt8) (q0 : Pf) (w : World) (T : Hid (Dg.Tab w)) (_hn : n ≤ 9223372036854775807)
    (hi : Hid (∀ k, k < n → ∀ W : World, (Instr.indexAt 55 (.slice p n cap) (.int .i64 (k : Int))).run Tryd.prog W = .ok (.pointer (some (A k))) W))
    (hc : Hid (∀ k, k < n → w.cell? (A k) = some (.string ⟨(l k).toArray⟩) ∧ (A k).block < w.heap.size))
    (hq : Hid (q0.proved = false ∧ q0.taken = false ∧ q0.failed = false))
    (AW : Hid (∀ W, Hid (Dg.Tab W) → Calls Tryd.prog 11 #[] W fun e w' => e = .returned (.bool true) ∧ Below W.heap.size W w'))
    (SS : Hid (∀ W, Calls Tryd.prog 23 #[.string s] W fun e w' => e = .returned (.string ⟨ss.toArray⟩) ∧ W = w'))
    (SJ : Hid (∀ k, k < n → ∀ W, Calls Tryd.prog 23 #[.string ⟨(l k).toArray⟩] W fun e w' => e = .returned (.string ⟨(Prf.short (l k)).toArray⟩) ∧ W = w'))
    (s1 : Sums ss [107] S) (s2 : Hid (∀ k, Sums (Prf.short (l k)) [118] (Prf.short (l k) ++ [118])))
    (N1 : Hid (∀ W, Calls Tryd.prog 8 #[.string { data := #[109, 101] }, .string ⟨S.toArray⟩, .string { data := #[98] }, .int .i64 3] W (NewPost W q0)))
    (TK : Hid (∀ (k j : Nat) B W, k < 256 → Rg B W q0 → Hid (Dg.Tab W) → Calls Tryd.prog 17 #[.pointer (some ⟨B, 0, none⟩), mv (1, (k : Int), Prf.short (l j) ++ [118], [120])] W (TakePost B W (q0, [(2, (k : Int), Prf.sum k S (Prf.short (l j) ++ [118]), me)], 0))))
    (CH : Hid (∀ (k j : Nat) W, Calls Tryd.prog 16 #[.int .i64 (k : Int), .string ⟨S.toArray⟩, .string ⟨(Prf.short (l j) ++ [118]).toArray⟩] W fun e w' => e = .returned (.string ⟨(Prf.sum k S (Prf.short (l j) ++ [118])).toArray⟩) ∧ Below W.heap.size W w')) :
    Calls Tryd.prog 5 #[.int .i64 id, .string s, .slice p n cap] w fun e w' => e = .returned (.bool true) ∧ Below w.heap.size w w' := by
  go_enter Tryd.func5, Tryd.ntmps5
  go_wp2_with fail
  refine (AW.out w T).mono ?_
  rintro e w0 ⟨rfl, hb0⟩
  have B0 := Lib.hid hb0
  clear hb0 AW
  go_wp2_with fail
  refine (SS.out _).mono ?_
  rintro e w9 ⟨rfl, rfl⟩
  clear SS
  go_wp2_with fail
  refine (N1.out _).mono ?_
  rintro e w1 ⟨B, rfl, hB, hr1, hb1⟩
  have R1 := Lib.hid hr1
  have HB : Hid (w.heap.size ≤ B) := Lib.hid (Nat.le_trans B0.out.size hB)
  have B1 := Lib.hid (bel2 B0.out hb1)
  clear hr1 hb1 hB N1 s1 B0
  go_wp2_with fail
  go_loopw [10] (fun s10 wr => ∃ j : Nat, j ≤ n ∧ j ≤ 10 ∧ s10 = .int .i64 (j : Int) ∧ Rg B wr q0 ∧ Below w.heap.size w wr) (fun s10 _ => n - (intOf s10).toNat)
  case atStart => exact ⟨0, Nat.zero_le _, by omega, rfl, R1.out, B1.out⟩
  case round =>
    clear R1 B1
    obtain ⟨j, h1, h2, rfl, hr, hb⟩ := hrel
    have R5 := Lib.hid hr
    have B5 := Lib.hid hb
    clear hr hb
    by_cases hlt : j < n ∧ j < 10
    · obtain ⟨hj1, hj2⟩ := hlt
      have ix := hi.out j hj1
      obtain ⟨c0, hz0⟩ := hc.out j hj1
      rw [← B5.out.cell hz0] at c0
      have SH := Lib.hid (SJ.out j hj1)
      have st := s2.out j
      have TK := Lib.hid fun k B W h1 h2 h3 => TK.out k j B W h1 h2 h3
      have CH := Lib.hid fun k W => CH.out k j W
      clear hz0
      generalize Prf.short (l j) ++ [118] = V at *
      generalize Prf.short (l j) = sv at *
      obtain ⟨k, hk, hk2⟩ := low_255 (wrap64 (id + (j : Int)))
      go_wp2_with fail
      refine (SH.out _).mono ?_
      rintro e w9 ⟨rfl, rfl⟩
      clear SH
      go_wp2_with fail
      refine (TK.out k _ _ hk2 R5.out (Lib.hid (T.out.below B5.out))).mono ?_
      rintro e w6 ⟨v6, rfl, ho, hr6, hc6⟩
      have R6 := Lib.hid hr6
      have O6 := Lib.hid ho
      have B6 := Lib.hid (chg_bel B5.out HB.out hc6)
      clear ho hr6 hc6 TK
      go_wp2_with (first
        | (go_at_call 10; refine (num_any _ _).mono ?_; rintro e w9 ⟨rfl, rfl⟩)
        | (go_at_call 16; refine (CH.out k _).mono ?_; rintro e w7 ⟨rfl, hb7⟩; have hbl := (Below.refl w7.heap.size w7).alloc (Nat.le_refl _) (.cells #[.int .i64 2, .int .i64 (k : Int), .string ⟨(Prf.sum k S V).toArray⟩, .string { data := #[109, 101] }] 33); have SM := Lib.hid (same_any ((O6.out.below hb7).below hbl) (Out.lit (Nat.le_refl w7.heap.size) (2, (k : Int), Prf.sum k S V, me) _ rfl)); have B8 := Lib.hid (bel2 (bel2 B6.out hb7) hbl); have R8 := Lib.hid ((R6.out.below hb7).below hbl); clear hb7 hbl)
        | (go_at_call 19; refine SM.out.mono ?_; rintro e w8 ⟨rfl, hb8⟩; have R9 := Lib.hid (R8.out.below hb8); have B9 := Lib.hid (bel2 B8.out hb8); clear hb8))
      go_roundw
      case rel => exact ⟨j + 1, by omega, by omega, by go_num, R9.out, B9.out⟩
      case measure => simp [intOf]; omega
    · obtain ⟨e1, e2, e3⟩ := hq.out
      have P5 := Lib.hid (proved_any _ _ _ R5.out)
      have T5 := Lib.hid (taken_any _ _ _ R5.out)
      have F5 := Lib.hid (failed_any _ _ _ R5.out)
      rw [e1] at P5
      rw [e2] at T5
      rw [e3] at F5
      have two : n ≤ j ∨ j < n ∧ 10 ≤ j := by omega
      clear hlt e1 e2 e3
      rcases two with g1 | ⟨g1, g2⟩
      all_goals
        go_wp2_with (first
          | (go_at_call 10; refine (num_any _ _).mono ?_; rintro e w9 ⟨rfl, rfl⟩)
          | (go_at_call 20; refine P5.out.mono ?_; rintro e w9 ⟨rfl, rfl⟩)
          | (go_at_call 21; refine T5.out.mono ?_; rintro e w9 ⟨rfl, rfl⟩)
          | (go_at_call 22; refine F5.out.mono ?_; rintro e w9 ⟨rfl, rfl⟩))
        go_ret
        exact ⟨rfl, B5.out⟩
theorem answers_at (id : Int) (sl : List UInt8) (p : Option Addr) (n cap : Nat) (A : Nat → Addr) (l : Nat → List UInt8) (w : World) (T : Hid (Dg.Tab w)) (hn : n ≤ 9223372036854775807) (hs : sl.length ≤ 140737488351232) (hl : ∀ k, k < n → (l k).length ≤ 9223372036854775807)
    (hi : Hid (∀ k, k < n → ∀ W : World, (Instr.indexAt 55 (.slice p n cap) (.int .i64 (k : Int))).run Tryd.prog W = .ok (.pointer (some (A k))) W))
    (hc : Hid (∀ k, k < n → w.cell? (A k) = some (.string ⟨(l k).toArray⟩) ∧ (A k).block < w.heap.size)) :
    Calls Tryd.prog 5 #[.int .i64 id, .string ⟨sl.toArray⟩, .slice p n cap] w fun e w' => e = .returned (.bool true) ∧ Below w.heap.size w w' := by
  have l1 := Prf.short_length sl
  obtain ⟨S, hS⟩ : ∃ S, S = Prf.short sl ++ [107] := ⟨_, rfl⟩
  have lS : 1 ≤ S.length ∧ S.length ≤ 41 := by rw [hS, List.length_append]; simp; omega
  have lV : ∀ j, 1 ≤ (Prf.short (l j) ++ [118]).length ∧ (Prf.short (l j) ++ [118]).length ≤ 41 := fun j => by
    have := Prf.short_length (l j)
    rw [List.length_append]
    simp
    omega
  have fi : Prf.fine me S [98] 3 = true := by
    unfold Prf.fine Prf.fits
    rw [decide_eq_true (show 1 ≤ S.length by omega), decide_eq_true (show S.length ≤ 64 by omega)]
    rfl
  have f0 : (Prf.born me S [98] 3).Fit := Prf.born_fit fi
  refine answers_walk id _ p n cap A l S (Prf.short sl) (Prf.born me S [98] 3) w T hn hi hc (Lib.hid ⟨rfl, rfl, rfl⟩) (Lib.hid fun W hT => awake_any W hT) (Lib.hid fun W => short_any sl W (by omega)) (Lib.hid fun k hk W => short_any (l k) W (hl k hk)) ?_ ?_ ?_ ?_ ?_
  · rw [hS]; exact sums _ _ (by simp; omega)
  · exact Lib.hid fun k => sums _ _ (by have := Prf.short_length (l k); simp; omega)
  · exact Lib.hid fun W => new_good me S [98] 3 W fi
  · refine Lib.hid fun k j B W hk h hT => ?_
    have := lV j
    have q := Take_any B _ (k : Int) (Prf.short (l j) ++ [118]) [120] W h 1 f0 hT (by omega)
    rwa [Prf.take_challenge _ (k : Int) (Prf.short (l j) ++ [118]) [120] rfl (by omega) (by omega) (by decide)] at q
  · refine Lib.hid fun k j W => ?_
    have := lV j
    exact Dg.rchap_any (k : Int) S (Prf.short (l j) ++ [118]) W (by omega)
theorem walk_answers (id : Int) (s : ByteArray) (v : Value) (vs : List ByteArray) (w : World) (_ : (Lit.int .i64 id).wf = true) (hs : s.size ≤ 140737488351232) (h1 : TextsIn w v vs) (b1 : vs.length ≤ maxLen ∧ ∀ s ∈ vs, s.size ≤ maxLen) (T : Dg.Tab w) :
    Calls Tryd.prog 5 #[.int .i64 id, .string s, v] w fun e w' => e = .returned (.bool true) ∧ Below w.heap.size w w' := by
  obtain ⟨sl, rfl⟩ : ∃ l : List UInt8, s = ⟨l.toArray⟩ := ⟨s.data.toList, by simp⟩
  rw [sz] at hs
  have hn : vs.length ≤ 9223372036854775807 := by have := b1.1; unfold maxLen at this; omega
  have hds : ∀ k, k < vs.length → ((vs.getD k ByteArray.empty).data.toList).length ≤ 9223372036854775807 := by
    intro k hk
    have := b1.2 (vs.getD k ByteArray.empty) (by simp [List.getD, hk])
    unfold maxLen at this
    have e : (vs.getD k ByteArray.empty).data.toList.length = (vs.getD k ByteArray.empty).size := by simp
    omega
  rcases h1 with ⟨rfl, rfl⟩ | ⟨a, acap, rfl, ha⟩
  · exact answers_at id sl none 0 0 (fun _ => ⟨0, 0, none⟩) (fun _ => []) w (Lib.hid T) (by omega) hs (fun k hk => absurd hk (Nat.not_lt_zero k)) (Lib.hid fun k hk => absurd hk (Nat.not_lt_zero k)) (Lib.hid fun k hk => absurd hk (Nat.not_lt_zero k))
  · refine answers_at id sl (some a) vs.length acap (fun k => a.add k) (fun k => (vs.getD k ByteArray.empty).data.toList) w (Lib.hid T) hn hs hds (Lib.hid fun k hk W => index_at a _ acap k hk W) (Lib.hid fun k hk => ?_)
    have h := ha k hk
    refine ⟨?_, block_lt_of_cell h⟩
    rw [h]
end Go.Proofs.YtaagfmnpeimakaaDoor.Cp
