/-
  The walk of the law of a layer that comes up and goes down.
-/
import Derived.Test.YtokkecbnbojlnaaDoorU9
namespace Go.Proofs.YtokkecbnbojlnaaDoor.Fsm
/-- Is the layer up, ahead of place k? -/
def upAt (b : Bool) (L : List Int) : Nat → Bool
  | 0 => b
  | k + 1 => if L[k]? = some 1 then true else if L[k]? = some 2 then false else upAt b L k
def turns (s v : Nat) : Bool := (place s v).2.2 != 0 || ((List.range (place s v).2.1.length).all (fun k => ((place s v).2.1.getD k 0 != 1 || !upAt (s == 9) (place s v).2.1 k) && ((place s v).2.1.getD k 0 != 2 || upAt (s == 9) (place s v).2.1 k)) &&
  upAt (s == 9) (place s v).2.1 (place s v).2.1.length == ((place s v).1.toNat == 9))
theorem all_turns (s v : Nat) (hs : s < 10) (hv : v < 16) : turns s v = true := by
  have : ∀ s : Fin 10, ∀ v : Fin 16, turns s v = true := by decide +kernel
  exact this ⟨s, hs⟩ ⟨v, hv⟩
theorem ups (s v : Nat) (hs : s < 10) (hv : v < 16) (t : Nat) (L : List Int) (hr : place s v = ((t : Int), L, 0)) : (∀ k (h : k < L.length), (L[k] = 1 → upAt (s == 9) L k = false) ∧ (L[k] = 2 → upAt (s == 9) L k = true)) ∧ upAt (s == 9) L L.length = (t == 9) := by
  have h := all_turns s v hs hv
  unfold turns at h
  rw [hr] at h
  simp only [Bool.and_eq_true, List.all_eq_true, List.mem_range, Bool.or_eq_true, bne_iff_ne, beq_iff_eq, ne_eq, not_true_eq_false, false_or, Int.toNat_natCast, Bool.not_eq_true'] at h
  refine ⟨fun k hk => ?_, h.2⟩
  have h2 := h.1 k hk
  rw [List.getD_eq_getElem?_getD, List.getElem?_eq_getElem hk] at h2
  simp only [Option.getD_some] at h2
  refine ⟨fun e => ?_, fun e => ?_⟩
  · rcases h2.1 with h3 | h3
    · exact absurd e h3
    · exact h3
  · rcases h2.2 with h3 | h3
    · exact absurd e h3
    · exact h3
end Go.Proofs.YtokkecbnbojlnaaDoor.Fsm
namespace Go.Proofs.YtokkecbnbojlnaaDoor.U
open Go.RowKit
set_option maxRecDepth 100000 in
set_option maxHeartbeats 3200000 in
theorem walk_fsmUps {w : World} (ST : StepOk w) (va : Value) (zs : List Int) (hr : ReadsI w va zs) (hl : zs.length ≤ 4611686018427387904) : Calls Tryd.prog 5 #[va] w fun e w' => e = .returned (.bool true) ∧ Below w.heap.size w w' := by
  obtain ⟨p0, cap0, b0, off0, rfl, _, _, hi0, hc0⟩ := hr.at
  have HI0 := Lib.hid hi0
  have HC0 := Lib.hid hc0
  clear hi0 hc0 hr
  have SS : Hid (∀ x v : Nat, x ≤ 9 → v < 16 → ∃ (t : Nat) (L : List Int) (e : Int), t ≤ 9 ∧ L.length ≤ 3 ∧ (e = 1001 ∨ e = 0 ∧ Hid (∀ k (h : k < L.length), (L[k] = 1 → Fsm.upAt (x == 9) L k = false) ∧ (L[k] = 2 → Fsm.upAt (x == 9) L k = true)) ∧ Hid (Fsm.upAt (x == 9) L L.length = (t == 9))) ∧ Hid (∀ W, Below w.heap.size w W → Calls Tryd.prog 10 #[.int .i64 (x : Int), .int .i64 (v : Int)] W (StepPost ((t : Int), L, e) W))) := Lib.hid fun x v hx hv => by
    obtain ⟨t, L, e, ht, hL, hp, he, S⟩ := ST.place x v (by omega) hv
    refine ⟨t, L, e, ht, hL, ?_, S⟩
    rcases he with rfl | ⟨rfl, _⟩
    · obtain ⟨h1, h2⟩ := Fsm.ups x v (by omega) hv t L hp
      exact .inr ⟨rfl, Lib.hid h1, Lib.hid h2⟩
    · exact .inl rfl
  go_enter Tryd.func5, Tryd.ntmps5
  go_wp2_with fail
  refine (awake_any ST).mono ?_
  rintro e wa ⟨rfl, hba⟩
  have BA := Lib.hid hba
  clear hba
  go_wp2_with fail
  go_loopw [3, 4, 5] (fun s u i wr => ∃ (k x : Nat) (q : Bool), k ≤ zs.length ∧ k ≤ 200 ∧ i = .int .i64 k ∧ s = .int .i64 (x : Int) ∧ x ≤ 9 ∧ u = .bool q ∧ Hid ((x == 9) = q) ∧ Below w.heap.size w wr) (fun _ _ i _ => 200 - (intOf i).toNat)
  case atStart => exact ⟨0, 0, false, by omega, by omega, rfl, rfl, by omega, rfl, Lib.hid rfl, BA.out⟩
  case round =>
    obtain ⟨k, x, q, hk, hk2, rfl, rfl, hx, rfl, HQ, hb⟩ := hrel
    have HB := Lib.hid hb
    clear hb
    by_cases hlt : k < zs.length
    · by_cases hlt2 : k < 200
      · have hi := HI0.out k hlt
        have c0 := HC0.out k hlt
        rw [← HB.out.cell (block_lt_of_cell c0)] at c0
        generalize zs[k] = z at *
        obtain ⟨o8, ho8⟩ : ∃ o8, o8 = off0 + k := ⟨_, rfl⟩
        rw [← ho8] at hi c0
        clear ho8
        obtain ⟨v, hz, hv⟩ := by_mod z 16 (by decide) (by decide)
        have hv2 : v < 16 := by omega
        obtain ⟨t, L, e0, ht, hL, he, S⟩ := SS.out x v hx hv2
        have q15 : decide ((k : Int) < (zs.length : Int)) = true := decide_eq_true (by omega)
        have q18 : decide ((k : Int) < 200) = true := decide_eq_true (by omega)
        rcases he with rfl | ⟨rfl, HU, HE⟩
        · go_wp2_with fail
          refine (S.out _ HB.out).mono ?_
          rintro e w1 ⟨p1, cap1, rfl, ho1⟩
          have B1 := Lib.hid (bel2 HB.out ho1.2)
          clear ho1
          go_wp2_with (go_at_call 13; refine (num_any _ _).mono ?_; rintro e w9 ⟨rfl, rfl⟩)
          go_roundw
          case rel => exact ⟨k + 1, x, q, by omega, by omega, by go_num, rfl, hx, rfl, HQ, B1.out⟩
          case measure => simp [intOf]; omega
        · go_wp2_with fail
          refine (S.out _ HB.out).mono ?_
          rintro e w1 ⟨p1, cap1, rfl, ho1⟩
          have B1 := Lib.hid (bel2 HB.out ho1.2)
          obtain ⟨p, cap, b, off, hv, _, _, hi, hc⟩ := ho1.reads.at
          simp only [Value.slice.injEq] at hv
          obtain ⟨rfl, _, rfl⟩ := hv
          have HI := Lib.hid hi
          have HC := Lib.hid hc
          clear ho1 hi hc c0
          go_wp2_with (go_at_call 13; refine (num_any _ _).mono ?_; rintro e w9 ⟨rfl, rfl⟩)
          go_loopw [4, 9] (fun u j wq => ∃ (m : Nat) (g : Bool), m ≤ L.length ∧ j = .int .i64 m ∧ u = .bool g ∧ Hid (Fsm.upAt (x == 9) L m = g) ∧ Below w1.heap.size w1 wq) (fun _ j _ => L.length - (intOf j).toNat)
          case atStart => exact ⟨0, q, by omega, rfl, rfl, Lib.hid HQ.out, Below.refl _ _⟩
          case round =>
            obtain ⟨m, g, hm, rfl, rfl, HG, hb⟩ := hrel
            have HM := Lib.hid hb
            clear hb
            by_cases hltm : m < L.length
            · have hi := HI.out m hltm
              have c1 := HC.out m hltm
              rw [← HM.out.cell (block_lt_of_cell c1)] at c1
              have HS : Hid (Fsm.upAt (x == 9) L (m + 1) = if L[m] = 1 then true else if L[m] = 2 then false else g) := Lib.hid (by rw [← HG.out]; simp [Fsm.upAt, List.getElem?_eq_getElem hltm])
              obtain ⟨h1, h2⟩ := HU.out m hltm
              rw [HG.out] at h1 h2
              generalize L[m] = y at *
              obtain ⟨o9, ho9⟩ : ∃ o9, o9 = off + m := ⟨_, rfl⟩
              rw [← ho9] at hi c1
              clear ho9
              by_cases hy1 : y = 1
              · subst hy1
                obtain rfl : g = false := h1 rfl
                have HS2 : Hid (Fsm.upAt (x == 9) L (m + 1) = true) := Lib.hid HS.out
                clear h1 h2 HS
                go_wp2_with fail
                go_roundw
                case rel => exact ⟨m + 1, true, by omega, by go_num, rfl, HS2, HM.out⟩
                case measure => simp [intOf]; omega
              · by_cases hy2 : y = 2
                · subst hy2
                  obtain rfl : g = true := h2 rfl
                  have HS2 : Hid (Fsm.upAt (x == 9) L (m + 1) = false) := Lib.hid HS.out
                  clear h1 h2 HS hy1
                  go_wp2_with fail
                  go_roundw
                  case rel => exact ⟨m + 1, false, by omega, by go_num, rfl, HS2, HM.out⟩
                  case measure => simp [intOf]; omega
                · have HS2 : Hid (Fsm.upAt (x == 9) L (m + 1) = g) := Lib.hid (by rw [HS.out, if_neg hy1, if_neg hy2])
                  clear h1 h2 HS
                  go_wp2_with fail
                  go_roundw
                  case rel => exact ⟨m + 1, g, by omega, by go_num, rfl, HS2, HM.out⟩
                  case measure => simp [intOf]; omega
            · obtain rfl : m = L.length := by omega
              have he := HE.out
              rw [HG.out] at he
              have hn : ((t : Int) == 9) = g := by rw [he, Bool.eq_iff_iff]; simp; omega
              have HN : Hid ((t == 9) = g) := Lib.hid he.symm
              have B2 := Lib.hid (bel2 B1.out HM.out)
              clear HG hltm HC HI HE HU he
              cases g
              · go_wp2_with fail
                go_roundw
                case rel => exact ⟨k + 1, t, false, by omega, by omega, by go_num, rfl, ht, rfl, HN, B2.out⟩
                case measure => simp [intOf]; omega
              · go_wp2_with fail
                go_roundw
                case rel => exact ⟨k + 1, t, true, by omega, by omega, by go_num, rfl, ht, rfl, HN, B2.out⟩
                case measure => simp [intOf]; omega
      · go_wp2_with fail
        go_ret
        exact ⟨rfl, HB.out⟩
    · go_wp2_with fail
      go_ret
      exact ⟨rfl, HB.out⟩
end Go.Proofs.YtokkecbnbojlnaaDoor.U
