/-
  The document's own timers: what has fallen due.
-/
import Derived.Test.YthbbeiflkiihdaaYR2
import Derived.Deep.LoopGhost
namespace Go.Proofs.Ythbbeiflkiihdaa.Y
open Go.RowKit
/-- What a call to Due leaves: the ids in a row of the call's own. -/
def RefDue (B : Nat) (v : Value) (w : World) (r : List Tim.T × List Int) (e : Ending) (w' : World) : Prop := ∃ p cap, e = .returned (.slice p r.2.length cap) ∧ w'.ownsRow w.heap.size 3 1 (.slice p r.2.length cap) r.2.length (cellsI r.2) ∧ ∃ v', Rm B v' w' r.1 ∧ Mv B v v' w w' ∧ ∀ k, v'.ownBlock = some k → w.heap.size ≤ k ∧ (Value.slice p r.2.length cap).ownBlock ≠ some k
theorem RowX.made (B : Nat) (w : World) (h : B ≤ w.heap.size) : RowX B (w.alloc (.cells #[] 44)) (.slice (some ⟨w.heap.size, 0, none⟩) 0 0) [] :=
  World.ownsRow_lit w #[] 0 h (Nat.zero_le _) rfl
/-- The end of Due. -/
theorem rdue_end {B m : Nat} {v v3 : Value} {w wr w3 : World} {S D : List Tim.T} {ids : List Int} {q : Option Addr} {c : Nat} {r : List Tim.T × List Int} (h : Rm B v w S) (hb : Below w.heap.size w wr) (hrow : wr.ownsRow w.heap.size 3 1 (.slice q ids.length c) ids.length (cellsI ids))
    (hok : Tim.Ok r.1) (e1 : D = r.1) (e2 : ids = r.2) (hm : ids.length = m) (P : PushedX (B + 1) (wr.alloc (.cells #[] 44)) (.slice (some ⟨wr.heap.size, 0, none⟩) 0 0) ([] ++ D) v3 w3) :
    RefDue B v w r (.returned (.slice q m c)) (w3.setCell ⟨B, 0, none⟩ v3) := by
  subst hm
  have hA := (Below.refl wr.heap.size wr).alloc (Nat.le_refl _) (.cells #[] 44)
  have b3 : Below wr.heap.size wr w3 := hA.grown P.grown hA.size fun k hk => by simp only [Value.ownBlock, Option.some.injEq] at hk; omega
  have hl : ∀ k, v3.ownBlock = some k → wr.heap.size ≤ k := fun k hk => by
    rcases P.lies k hk with e | e
    · simp only [Value.ownBlock, Option.some.injEq] at e; omega
    · have := hA.size; omega
  subst e1
  subst e2
  have hB := h.rf.lt
  refine ⟨q, c, rfl, row_other (row_below hrow b3) (fun e => ?_) v3, v3, Rm.anew h.rf (bel2 hb b3) hok P.row, mv_anew (bel2 hb b3) v3 fun k hk => Nat.le_trans hb.size (hl k hk), fun k hk => ⟨Nat.le_trans hb.size (hl k hk), fun e => ?_⟩⟩
  · have h1 := (hrow.lt _ e).1
    simp only at h1
    omega
  · have := (hrow.lt _ e).2
    have := hl k hk
    omega
theorem rdue_box {B : Nat} {v u v3 : Value} {wr w3 : World} {S D : List Tim.T} (h : Rm B v wr S) (e : u = .slice (some ⟨wr.heap.size, 0, none⟩) 0 0) (P : PushedX (B + 1) (wr.alloc (.cells #[] 44)) u D v3 w3) : w3.cell? ⟨B, 0, none⟩ = some v ∧ ∀ o, w3.frozen? ⟨B, o, none⟩ = false := by
  subst e
  have hA := (Below.refl wr.heap.size wr).alloc (Nat.le_refl _) (.cells #[] 44)
  have b3 : Below wr.heap.size wr w3 := hA.grown P.grown hA.size fun k hk => by simp only [Value.ownBlock, Option.some.injEq] at hk; omega
  have x := h.rf.box.below b3
  exact ⟨x.cell 0 _ rfl, x.2⟩
theorem drop_gx (S : List Tim.T) (k : Nat) (hk : k < S.length) : S.drop k = Tim.g S k :: S.drop (k + 1) := by rw [List.drop_eq_getElem_cons hk, ← Tim.g_eq S k hk]
set_option maxRecDepth 100000 in
set_option maxHeartbeats 3200000 in
theorem rdue_any (B : Nat) (v : Value) (S : List Tim.T) (now : Int) (w : World) (h : Rm B v w S) :
    Calls Try.prog 12 #[.pointer (some ⟨B, 0, none⟩), .int .i64 now] w (RefDue B v w (Tim.due S now)) := by
  have H := Lib.hid h
  have hfew := h.ok.few
  have hB := h.rf.lt
  have h0 : Hid (∀ p cap, v = .slice p S.length cap → (p = none ∧ cap = 0 ∧ S.length = 0) ∨ ∃ G, p = some ⟨G, 0, none⟩ ∧ S.length ≤ cap) := Lib.hid fun p cap e => by
    rcases h.rf.arr.2 with ⟨e1, e0⟩ | ⟨g, c, cur, e1, _, _, hc, _⟩
    · rw [e1] at e
      simp only [Value.slice.injEq] at e
      exact .inl ⟨e.1.symm, e.2.2.symm, e0⟩
    · rw [e1] at e
      simp only [Value.slice.injEq] at e
      exact .inr ⟨g, e.1.symm, by rw [← e.2.2]; exact hc⟩
  obtain ⟨p, cap, rfl⟩ := h.rf.form
  have h0 := Lib.hid (h0.out p cap rfl)
  have HOK : Hid (Tim.Ok (Tim.due S now).1) := Lib.hid (Tim.due_ok h.ok now)
  generalize hr : Tim.due S now = r at *
  have HR := Lib.hid hr
  clear h hr
  go_enter Try.func12, Try.ntmps12
  go_wp2_with fail
  go_loopw [5, 6] (fun s u wr => ∃ (n : Nat) (ids : List Int) (q : Option Addr) (c : Nat), n ≤ S.length ∧ u = .int .i64 n ∧ s = .slice q ids.length c ∧ ids.length = n ∧ wr.ownsRow w.heap.size 3 1 (.slice q ids.length c) ids.length (cellsI ids) ∧ Below w.heap.size w wr ∧ (Tim.due (S.drop n) now).1 = r.1 ∧ ids ++ (Tim.due (S.drop n) now).2 = r.2) (fun _ u _ => S.length - (intOf u).toNat)
  case atStart => exact ⟨0, [], none, 0, by omega, rfl, rfl, rfl, World.ownsRow_nil _ _ _ _, Below.refl _ _, by rw [List.drop_zero, HR.out], by rw [List.drop_zero, HR.out]; rfl⟩
  case round =>
    obtain ⟨n, ids, q, c, hn, rfl, rfl, hln, hrow, hb, hd1, hd2⟩ := hrel
    have HM := Lib.hid (H.out.below hb)
    have HB := Lib.hid hb
    have HW := Lib.hid hrow
    have c0 := HM.out.rf.box.cell 0 _ rfl
    have HD : Hid ((Tim.due (S.drop n) now).1 = r.1 ∧ ids ++ (Tim.due (S.drop n) now).2 = r.2) := Lib.hid ⟨hd1, hd2⟩
    clear hb hrow hd1 hd2 HR
    by_cases hlt : n < S.length
    · obtain ⟨G, cap2, e, _, hcap, hG⟩ := HM.out.rf.arr.full (by omega)
      simp only [Value.slice.injEq, true_and] at e
      obtain ⟨rfl, rfl⟩ := e
      obtain ⟨c1, c2⟩ := HM.out.rf.arr.cells n hlt
      have hi := indexX G S.length cap n hlt
      have hdr := drop_gx S n hlt
      obtain ⟨o8, ho8⟩ : ∃ o8, o8 = 2 * n := ⟨_, rfl⟩
      rw [← ho8] at hi c1 c2
      clear ho8
      have HDR := Lib.hid hdr
      generalize Tim.g S n = x at *
      clear hdr
      by_cases hx : x.2 ≤ now
      · have q1 : decide (x.2 ≤ now) = true := decide_eq_true hx
        have q2 : decide ((n : Int) < (S.length : Int)) = true := decide_eq_true (by omega)
        have HE : Hid ((Tim.due (S.drop (n + 1)) now).1 = r.1 ∧ (ids ++ [x.1]) ++ (Tim.due (S.drop (n + 1)) now).2 = r.2) := Lib.hid (by
          have := HD.out
          rw [HDR.out, Tim.due_step x _ now hx] at this
          exact ⟨this.1, by rw [← this.2]; simp⟩)
        clear HD
        have hA := (Below.refl wr.heap.size wr).alloc (Nat.le_refl _) (.cells #[.int .i64 x.1] 3)
        have HA := Lib.hid hA
        have HL := Lib.hid (readsI_lit wr _ rfl [x.1] #[.int .i64 x.1] rfl)
        have HWA := Lib.hid (row_below HW.out hA)
        have hz : w.heap.size ≤ (wr.alloc (.cells #[.int .i64 x.1] 3)).heap.size := by have := HB.out.size; simp; omega
        have hl1 : (ids.length + [x.1].length) * 8 ≤ 140737488355328 := by simp; omega
        clear hA
        go_wp2_with (at_builtin; refine wp_catA rfl _ _ rfl w.heap.size ids [x.1] HWA.out hz HL.out rfl rfl hl1 ?_; intro v6 w6 h6; have P6 := Lib.hid h6; obtain ⟨p6, cap6, rfl⟩ := row_form h6.row; clear h6)
        have B6 := Lib.hid ((bel2 HB.out HA.out).grown P6.out.grown hz fun k hk => (HWA.out.lt k hk).1)
        have hln2 : (ids ++ [x.1]).length = n + 1 := by simp [hln]
        go_roundw
        case rel => exact ⟨n + 1, ids ++ [x.1], p6, cap6, by omega, by go_num, by rw [hln2], hln2, P6.out.row, B6.out, HE.out.1, HE.out.2⟩
        case measure => simp [intOf]; omega
      · have q1 : decide (x.2 ≤ now) = false := decide_eq_false hx
        have q2 : decide ((n : Int) < (S.length : Int)) = true := decide_eq_true (by omega)
        have HE : Hid (S.drop n = r.1 ∧ ids = r.2) := Lib.hid (by
          have := HD.out
          rw [HDR.out, Tim.due_end x _ now hx] at this
          rw [HDR.out]
          exact ⟨this.1, by rw [← this.2]; simp⟩)
        have hdl : (S.drop n).length ≤ 256 := by rw [List.length_drop]; omega
        have hA := (Below.refl wr.heap.size wr).alloc (Nat.le_refl _) (.cells #[] 44)
        have HMA := HM.out.below hA
        have cA := HMA.rf.box.cell 0 _ rfl
        have RMADE := Lib.hid (RowX.made (B + 1) wr HM.out.rf.lt)
        have hzA : B + 1 ≤ (wr.alloc (.cells #[] 44)).heap.size := HMA.rf.lt
        have RR := HMA.rf.arr.readsDrop n (cap - n)
        rw [Nat.mul_comm] at RR
        generalize S.drop n = D at *
        have RR := Lib.hid RR
        have hlA : ([] : List Tim.T).length + D.length ≤ 1000000 := by simp; omega
        have q9 : decide (cap = n) = false := decide_eq_false (by omega)
        clear hA HMA
        go_wp2_with (at_builtin; refine wp_catXs rfl _ _ rfl (B + 1) [] D RMADE.out hzA RR.out rfl rfl hlA ?_; intro v3 w3 h3; have P3 := Lib.hid h3; have hx3 := rdue_box HM.out rfl h3; have c3 := hx3.1; have fz := hx3.2; obtain ⟨p3, cap3, rfl⟩ := h3.row.form; clear h3 hx3)
        go_ret
        exact rdue_end H.out HB.out HW.out HOK.out HE.out.1 HE.out.2 hln P3.out
    · obtain rfl : n = S.length := by omega
      have HE : Hid (([] : List Tim.T) = r.1 ∧ ids = r.2) := Lib.hid (by
        have := HD.out
        rw [List.drop_length] at this
        exact ⟨this.1, by rw [← this.2]; simp [Tim.due_nil]⟩)
      clear HD
      rcases h0.out with ⟨rfl, rfl, hS0⟩ | ⟨G, rfl, hSc⟩
      · rw [hS0] at *
        have hA := (Below.refl wr.heap.size wr).alloc (Nat.le_refl _) (.cells #[] 44)
        have HMA := HM.out.below hA
        have cA := HMA.rf.box.cell 0 _ rfl
        have RMADE := Lib.hid (RowX.made (B + 1) wr HM.out.rf.lt)
        have hzA : B + 1 ≤ (wr.alloc (.cells #[] 44)).heap.size := HMA.rf.lt
        have hlA : ([] : List Tim.T).length + ([] : List Tim.T).length ≤ 1000000 := by decide
        have RR : Hid (ReadsX (wr.alloc (.cells #[] 44)) (.slice none 0 0) []) := Lib.hid (.inl ⟨rfl, .inr rfl⟩)
        clear hA HMA
        go_wp2_with (at_builtin; refine wp_catXs rfl _ _ rfl (B + 1) [] [] RMADE.out hzA RR.out rfl rfl hlA ?_; intro v3 w3 h3; have P3 := Lib.hid h3; have hx3 := rdue_box HM.out rfl h3; have c3 := hx3.1; have fz := hx3.2; obtain ⟨p3, cap3, rfl⟩ := h3.row.form; clear h3 hx3)
        go_ret
        exact rdue_end H.out HB.out HW.out HOK.out HE.out.1 HE.out.2 hln P3.out
      · by_cases hcs : cap = S.length
        · subst hcs
          have hA := (Below.refl wr.heap.size wr).alloc (Nat.le_refl _) (.cells #[] 44)
          have HMA := HM.out.below hA
          have cA := HMA.rf.box.cell 0 _ rfl
          have RMADE := Lib.hid (RowX.made (B + 1) wr HM.out.rf.lt)
          have hzA : B + 1 ≤ (wr.alloc (.cells #[] 44)).heap.size := HMA.rf.lt
          have hlA : ([] : List Tim.T).length + ([] : List Tim.T).length ≤ 1000000 := by decide
          have RR : Hid (ReadsX (wr.alloc (.cells #[] 44)) (.slice (some ⟨G, 0, none⟩) 0 0) []) := Lib.hid (.inl ⟨rfl, .inl ⟨_, _, rfl⟩⟩)
          clear hA HMA
          go_wp2_with (at_builtin; refine wp_catXs rfl _ _ rfl (B + 1) [] [] RMADE.out hzA RR.out rfl rfl hlA ?_; intro v3 w3 h3; have P3 := Lib.hid h3; have hx3 := rdue_box HM.out rfl h3; have c3 := hx3.1; have fz := hx3.2; obtain ⟨p3, cap3, rfl⟩ := h3.row.form; clear h3 hx3)
          go_ret
          exact rdue_end H.out HB.out HW.out HOK.out HE.out.1 HE.out.2 hln P3.out
        · have q9 : decide (cap = S.length) = false := decide_eq_false hcs
          have hA := (Below.refl wr.heap.size wr).alloc (Nat.le_refl _) (.cells #[] 44)
          have HMA := HM.out.below hA
          have cA := HMA.rf.box.cell 0 _ rfl
          have RMADE := Lib.hid (RowX.made (B + 1) wr HM.out.rf.lt)
          have hzA : B + 1 ≤ (wr.alloc (.cells #[] 44)).heap.size := HMA.rf.lt
          have hlA : ([] : List Tim.T).length + ([] : List Tim.T).length ≤ 1000000 := by decide
          have RR : Hid (ReadsX (wr.alloc (.cells #[] 44)) (.slice (some ⟨G, S.length * 2, none⟩) 0 (cap - S.length)) []) := Lib.hid (.inl ⟨rfl, .inl ⟨_, _, rfl⟩⟩)
          clear hA HMA
          go_wp2_with (at_builtin; refine wp_catXs rfl _ _ rfl (B + 1) [] [] RMADE.out hzA RR.out rfl rfl hlA ?_; intro v3 w3 h3; have P3 := Lib.hid h3; have hx3 := rdue_box HM.out rfl h3; have c3 := hx3.1; have fz := hx3.2; obtain ⟨p3, cap3, rfl⟩ := h3.row.form; clear h3 hx3)
          go_ret
          exact rdue_end H.out HB.out HW.out HOK.out HE.out.1 HE.out.2 hln P3.out
end Go.Proofs.Ythbbeiflkiihdaa.Y
