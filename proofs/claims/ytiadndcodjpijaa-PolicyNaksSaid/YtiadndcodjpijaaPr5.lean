/-
  The program's row of rules: whether a link may be, which rule a kind has.
-/
import Derived.Test.YtiadndcodjpijaaPr4
namespace Go.Proofs.Ytiadndcodjpijaa.Pr
open Go.RowKit
theorem may_all (l : Pol.Lk) (h : ∀ j, j < 6 → mayAt l j = true) : Pol.may l = true := by
  have h0 := h 0 (by omega)
  have h1 := h 1 (by omega)
  have h2 := h 2 (by omega)
  have h4 := h 4 (by omega)
  have h5 := h 5 (by omega)
  simp only [mayAt, Bool.and_eq_true, decide_eq_true_eq] at h0 h1 h2 h4 h5
  rw [Pol.may_iff]
  exact ⟨h0, h2, h1.1, by have := h1.2; omega, h4, h5.1, by have := h5.2; omega⟩
theorem all_may (l : Pol.Lk) (h : Pol.may l = true) : ∀ j, j < 6 → mayAt l j = true := by
  rw [Pol.may_iff] at h
  obtain ⟨h0, h2, h1, h1', h4, h5, h5'⟩ := h
  intro j hj
  match j, hj with
  | 0, _ => exact h0
  | 1, _ => simp only [mayAt, Bool.and_eq_true, decide_eq_true_eq]; omega
  | 2, _ => exact h2
  | 3, _ => rfl
  | 4, _ => simp only [mayAt, decide_eq_true_eq]; omega
  | 5, _ => simp only [mayAt, Bool.and_eq_true, decide_eq_true_eq]; omega
theorem may_not (l : Pol.Lk) (k : Nat) (hk : k < 6) (h : mayAt l k = false) : Pol.may l = false := by
  cases hm : Pol.may l
  · rfl
  · rw [all_may l hm k hk] at h
    cases h
theorem may_plain (l : Pol.Lk) (h : Pol.may l = true) : Plain l := by
  rw [Pol.may_iff] at h
  obtain ⟨h0, h2, h1, h1', h4, h5, h5'⟩ := h
  have hs : ∀ x, Pol.size x = true → 0 ≤ x := by
    intro x hx
    simp only [Pol.size, Pol.unit, Bool.or_eq_true, Bool.and_eq_true, beq_iff_eq, decide_eq_true_eq] at hx
    omega
  exact ⟨hs _ h0, h1, hs _ h2, h5, h4, h1'⟩
/-- The place of number k, its parts by names of their own. -/
def Plc (B k : Nat) (SC : Array Value) (T : TypeId) (R : Value) (z : Int) : Prop := k < 6 ∧ SC = (scs B).toArray ∧ T = tys k ∧ R = rcv B k ∧ z = kind k
theorem plc {B k : Nat} {SC : Array Value} (hk : k < 6) (e : SC = (scs B).toArray) : ∃ T R z, Plc B k SC T R z := ⟨_, _, _, hk, e, rfl, rfl, rfl⟩
section
variable {ops : Array Oper} {rest : List Oper} {o : Oper} {a : Act} {Q : Exit → Act → World → Prop} {w : World}
theorem step_place {B k : Nat} {SC : Array Value} {T : TypeId} {R : Value} {z : Int} (hP : Plc B k SC T R z) (hgd : o.guard = none) (x y : Operand) (ho : o.op = .index 51 x y) (hx : a.eval x = .agg SC) (hy : a.eval y = .int .i64 (k : Int))
    (h : wpList Try.prog ops Q rest (a.put o.dst (.agg #[.int .i64 z, .iface T R])) w) : wpList Try.prog ops Q (o :: rest) a w := by
  obtain ⟨hk, rfl, rfl, rfl, rfl⟩ := hP
  exact wpList_place hgd x y ho B k hk hx hy h
end
theorem side_box (B : Nat) (w : World) : Arr w.heap.size (w.alloc (.cells (scs B).toArray 51)) (scs B) := Arr.new w (scs B) 51
set_option maxHeartbeats 1600000 in
set_option maxRecDepth 100000 in
theorem side_may (B : Nat) (l : Pol.Lk) (w : World) (h : Pl.Lnk B w l) : Calls Try.prog 18 #[.agg (scs B).toArray] w fun e w' => e = .returned (.bool (Pol.may l)) ∧ Below w.heap.size w w' := by
  have HL := Lib.hid h
  have LD := Lib.hid (side_load (side_box B w))
  have HB := Lib.hid ((Below.refl w.heap.size w).alloc (Nat.le_refl _) (.cells (scs B).toArray 51))
  clear h
  obtain ⟨SC, hSC⟩ : ∃ SC, SC = (scs B).toArray := ⟨_, rfl⟩
  rw [← hSC] at LD HB ⊢
  have HSC := Lib.hid hSC
  clear hSC
  go_enter Try.func18, Try.ntmps18
  go_wp2_with (refine wpList_load rfl 51 _ rfl ⟨w.heap.size, 0, none⟩ _ rfl LD.out ?_)
  go_loopw [6] (fun i wr => ∃ k : Nat, k ≤ 6 ∧ i = .int .i64 (k : Int) ∧ (∀ j, j < k → mayAt l j = true) ∧ Below w.heap.size w wr) (fun i _ => 6 - (intOf i).toNat)
  case atStart => exact ⟨0, by omega, rfl, fun j hj => absurd hj (Nat.not_lt_zero _), HB.out⟩
  case round =>
    clear LD HB
    obtain ⟨k, hk, rfl, ha, hb⟩ := hrel
    have HA := Lib.hid ha
    have HB := Lib.hid hb
    clear ha hb
    by_cases hlt : k < 6
    · obtain ⟨T, R, z, hp⟩ := plc (B := B) hlt HSC.out
      obtain ⟨g, v, hm, hc⟩ := m_may B k hlt
      rw [← hp.2.2.1, ← hp.2.2.2.1] at hm
      obtain ⟨m1, m2⟩ := hm
      have HC := Lib.hid hc
      have HP := Lib.hid hp
      clear hc hp
      cases hm : mayAt l k
      · have HM := Lib.hid (may_not l k hlt hm)
        have HC : Hid (∀ W, Pl.Lnk B W l → Calls Try.prog g #[v] W fun e w' => e = .returned (.bool false) ∧ Below W.heap.size W w') := Lib.hid (hm ▸ fun W => HC.out W l)
        clear hm
        go_wp2_with (first | (refine step_place HP.out rfl _ _ rfl rfl rfl ?_) | (go_at_fn g; refine (HC.out _ (HL.out.below (HB.out.alloc HB.out.size _))).mono ?_; rintro e w2 ⟨rfl, hb2⟩))
        go_ret
        exact ⟨ret_bool HM.out.symm, bel2 (HB.out.alloc HB.out.size _) hb2⟩
      · have HC : Hid (∀ W, Pl.Lnk B W l → Calls Try.prog g #[v] W fun e w' => e = .returned (.bool true) ∧ Below W.heap.size W w') := Lib.hid (hm ▸ fun W => HC.out W l)
        have HM := Lib.hid hm
        clear hm
        go_wp2_with (first | (refine step_place HP.out rfl _ _ rfl rfl rfl ?_) | (go_at_fn g; refine (HC.out _ (HL.out.below (HB.out.alloc HB.out.size _))).mono ?_; rintro e w2 ⟨rfl, hb2⟩))
        have HB2 := Lib.hid (bel2 (HB.out.alloc HB.out.size _) hb2)
        clear hb2
        go_roundw
        case rel =>
          refine ⟨k + 1, by omega, by go_num, fun j hj => ?_, HB2.out⟩
          by_cases e : j = k
          · subst e; exact HM.out
          · exact HA.out j (by omega)
        case measure => simp [intOf]; omega
    · obtain rfl : k = 6 := by omega
      have HM := Lib.hid (may_all l HA.out)
      go_wp2_with fail
      go_ret
      exact ⟨ret_bool HM.out.symm, HB.out⟩
end Go.Proofs.Ytiadndcodjpijaa.Pr
