/-
  Contract of the program's timers: what has fallen due.
-/
import Derived.Test.YthbbeiflkiihdaaYA
import Derived.Deep.LoopGhost
namespace Go.Proofs.Ythbbeiflkiihdaa
open Go.RowKit
/-- What was laid behind the machine's first world is written. -/
theorem Mv.ext {B : Nat} {v v' : Value} {a b c : World} {r : Option Nat} (h : Mv B v v' a b) (k : b.grownBy c r) (hr : ∀ k, r = some k → a.heap.size ≤ k) : Mv B v v' a c :=
  ⟨k.os.trans h.os, k.tape.trans h.tape, k.output.trans h.output, Nat.le_trans h.size k.size, fun i hi hB hv => (k.block i (Nat.lt_of_lt_of_le hi h.size) (fun e => by have := hr i e.symm; omega)).trans (h.kept i hi hB hv), h.row⟩
end Go.Proofs.Ythbbeiflkiihdaa
namespace Go.Proofs.Ythbbeiflkiihdaa.Y
open Go.RowKit
theorem Tm.grown {B : Nat} {v : Value} {w w' : World} {S : List Tim.T} {r : Option Nat} (h : Tm B v w S) (k : w.grownBy w' r) (hB : some B ≠ r) (hv : ∀ g, v.ownBlock = some g → some g ≠ r) : Tm B v w' S := by
  obtain ⟨A, hp, hh, hq⟩ := h.pile
  exact ⟨h.ok, A, ⟨hp.box.grown k hB, hp.arr.same fun g hg => k.block g (hp.arr.lt g hg).2 (hv g hg)⟩, hh, hq⟩
theorem tm_due_nil (B : Nat) (v : Value) (now : Int) (w : World) (h : Tm B v w []) : Calls Try.prog 22 #[.pointer (some ⟨B, 0, none⟩), .int .i64 now] w fun e w' => e = .returned (.bool false) ∧ Below w.heap.size w w' := by
  obtain ⟨A, hp, _, hq⟩ := h.pile
  obtain rfl : A = [] := hq.eq_nil
  exact isdue_none B v now w hp
theorem tm_due_cons (B : Nat) (v : Value) (x : Tim.T) (S : List Tim.T) (now : Int) (w : World) (h : Tm B v w (x :: S)) : Calls Try.prog 22 #[.pointer (some ⟨B, 0, none⟩), .int .i64 now] w fun e w' => e = .returned (.bool (decide (x.2 ≤ now))) ∧ Below w.heap.size w w' := by
  obtain ⟨A, hp, hH, hq⟩ := h.pile
  obtain ⟨h0, e⟩ := Tim.heap_first hH hq h.ok.sorted
  have := isdue_some B v A now w hp h0
  rwa [e] at this
theorem tm_pop (B : Nat) (v : Value) (x : Tim.T) (S : List Tim.T) (w : World) (h : Tm B v w (x :: S)) :
    Calls Try.prog 23 #[.iface 55 (.pointer (some ⟨B, 0, none⟩))] w fun e w' => e = .returned (.iface 57 (.agg #[.int .i64 x.1, .int .i64 x.2])) ∧ ∃ v', Tm B v' w' S ∧ Mv B v v' w w' ∧ v'.ownBlock = v.ownBlock := by
  have hok := h.ok
  obtain ⟨A, hp, hH, hq⟩ := h.pile
  obtain ⟨h0, e⟩ := Tim.heap_first hH hq hok.sorted
  have hlen : A.length ≤ 256 := by rw [hq.length_eq]; exact hok.few
  obtain ⟨n, hn⟩ : ∃ n, A.length = n + 1 := ⟨A.length - 1, by omega⟩
  refine (hpop_any B n v A w hp hn (by omega) (by rw [← hn]; exact hH)).mono ?_
  rintro e' w' ⟨rfl, v', C, hp', hq', hh', hv', hk'⟩
  rw [e] at hq' ⊢
  have hS : Tim.Ok S := ⟨(List.pairwise_cons.1 hok.sorted).2, (List.pairwise_cons.1 hok.ids).2, by have := hok.few; simp at this; omega⟩
  have hq2 : (x :: C).Perm (x :: S) := ((List.perm_append_comm (l₁ := [x]) (l₂ := C)).trans hq').trans hq
  exact ⟨rfl, v', ⟨hS, C, hp', hh', List.Perm.cons_inv hq2⟩, hv', hk'⟩
/-- What a call to Due leaves: the ids in a row of the call's own. -/
def DuePost (B : Nat) (v : Value) (w : World) (r : List Tim.T × List Int) (e : Ending) (w' : World) : Prop := ∃ p cap, e = .returned (.slice p r.2.length cap) ∧ w'.ownsRow w.heap.size 3 1 (.slice p r.2.length cap) r.2.length (cellsI r.2) ∧ ∃ v', Tm B v' w' r.1 ∧ Mv B v v' w w' ∧ v'.ownBlock = v.ownBlock
set_option maxRecDepth 100000 in
set_option maxHeartbeats 3200000 in
theorem due_any (B : Nat) (v : Value) (S : List Tim.T) (now : Int) (w : World) (h : Tm B v w S) :
    Calls Try.prog 10 #[.pointer (some ⟨B, 0, none⟩), .int .i64 now] w (DuePost B v w (Tim.due S now)) := by
  have H := Lib.hid h
  have hB := h.lt
  have HV : Hid (∀ k, v.ownBlock = some k → k < w.heap.size) := Lib.hid fun k hk => (h.row k hk).2
  have HF : Hid (S.length ≤ 256) := Lib.hid h.ok.few
  generalize hr : Tim.due S now = r
  have HR := Lib.hid hr
  clear h hr
  go_enter Try.func10, Try.ntmps10
  go_wp2_with fail
  go_loopg [5, 6, 7] S.length (fun g s5 _ _ wr => ∃ (S' : List Tim.T) (ids : List Int) (v' : Value) (p : Option Addr) (cap : Nat), g = S'.length ∧ s5 = .slice p ids.length cap ∧ Tm B v' wr S' ∧ Mv B v v' w wr ∧ v'.ownBlock = v.ownBlock ∧ wr.ownsRow w.heap.size 3 1 (.slice p ids.length cap) ids.length (cellsI ids) ∧
    ids.length + S'.length ≤ 256 ∧ (Tim.due S' now).1 = r.1 ∧ ids ++ (Tim.due S' now).2 = r.2)
  case atStart => exact ⟨S, [], v, none, 0, rfl, rfl, H.out, Mv.refl _ _ _, rfl, World.ownsRow_nil _ _ _ _, by have := HF.out; simpa using this, by rw [HR.out], by rw [HR.out]; rfl⟩
  case round =>
    obtain ⟨S', ids, v', p, cap, rfl, rfl, htm, hmv, hown, hrow, hfew, hd1, hd2⟩ := hrel
    have HT := Lib.hid htm
    have HM := Lib.hid hmv
    have HO := Lib.hid hown
    have HW := Lib.hid hrow
    have HD : Hid ((Tim.due S' now).1 = r.1 ∧ ids ++ (Tim.due S' now).2 = r.2) := Lib.hid ⟨hd1, hd2⟩
    clear htm hmv hown hrow hd1 hd2
    cases S' with
    | nil =>
      have HI := Lib.hid (tm_due_nil B v' now wr HT.out)
      have HE : Hid (r.1 = [] ∧ r.2 = ids) := Lib.hid (by
        have := HD.out
        rw [Tim.due_nil] at this
        exact ⟨this.1.symm, by rw [← this.2, List.append_nil]⟩)
      clear HD
      go_wp2_with (go_at_call 22; refine HI.out.mono ?_; rintro e w1 ⟨rfl, hb1⟩)
      go_ret
      obtain ⟨e1, e2⟩ := HE.out
      unfold DuePost
      rw [e1, e2]
      exact ⟨p, cap, rfl, row_below HW.out hb1, v', HT.out.below hb1, HM.out.trans (Mv.of_below hb1 B v'), HO.out⟩
    | cons x S2 =>
      by_cases hx : x.2 ≤ now
      · have HI : Hid (Calls Try.prog 22 #[.pointer (some ⟨B, 0, none⟩), .int .i64 now] wr fun e w' => e = .returned (.bool true) ∧ Below wr.heap.size wr w') := Lib.hid (by have h := tm_due_cons B v' x S2 now wr HT.out; rwa [decide_eq_true hx] at h)
        have HE : Hid ((Tim.due S2 now).1 = r.1 ∧ (ids ++ [x.1]) ++ (Tim.due S2 now).2 = r.2) := Lib.hid (by
          have := HD.out
          rw [Tim.due_step x S2 now hx] at this
          exact ⟨this.1, by rw [← this.2]; simp⟩)
        have HPOP : Hid (∀ w1, Below wr.heap.size wr w1 → Calls Try.prog 23 #[.iface 55 (.pointer (some ⟨B, 0, none⟩))] w1 fun e w' => e = .returned (.iface 57 (.agg #[.int .i64 x.1, .int .i64 x.2])) ∧ ∃ v2, Tm B v2 w' S2 ∧ Mv B v v2 w w' ∧ v2.ownBlock = v.ownBlock ∧ w'.ownsRow w.heap.size 3 1 (.slice p ids.length cap) ids.length (cellsI ids)) := Lib.hid fun w1 hb => by
          refine (tm_pop B v' x S2 w1 (HT.out.below hb)).mono ?_
          rintro e w' ⟨rfl, v2, ht2, hm2, ho2⟩
          have hM1 := Mv.of_below hb B v'
          refine ⟨rfl, v2, ht2, (HM.out.trans hM1).trans hm2, ho2.trans HO.out, ?_⟩
          have h1 := row_below HW.out hb
          refine row_same h1 fun g hg => hm2.kept g (h1.lt g hg).2 (fun e => by have := (h1.lt g hg).1; omega) (fun e => ?_)
          have a1 := HV.out g (by rw [← HO.out]; exact e)
          have a2 := (h1.lt g hg).1
          omega
        have ea := assert_any x.1 x.2
        have hlen : (ids.length + [x.1].length) * 8 ≤ 140737488355328 := by simp at hfew ⊢; omega
        have HFW : Hid ((ids ++ [x.1]).length + S2.length ≤ 256) := Lib.hid (by simp at hfew ⊢; omega)
        have HGH : Hid (S2.length < (x :: S2).length) := Lib.hid (by simp)
        clear HD hx HT HW HM HO
        go_wp2_with (first | (go_at_call 22; refine HI.out.mono ?_; rintro e w1 ⟨rfl, hb1⟩; have HQ := Lib.hid (HPOP.out w1 hb1); clear hb1 HPOP) | (go_at_call 23; refine HQ.out.mono ?_; rintro e w2 ⟨rfl, v2, ht2, hm2, ho2, hr2⟩; have HT2 := Lib.hid ht2; have HM2 := Lib.hid hm2; have HO2 := Lib.hid ho2; have hA3 := (Below.refl w2.heap.size w2).alloc (Nat.le_refl _) (.cells #[.int .i64 x.1, .int .i64 x.2] 57); have hA4 := (Below.refl (w2.alloc (.cells #[.int .i64 x.1, .int .i64 x.2] 57)).heap.size _).alloc (Nat.le_refl _) (.cells #[.int .i64 x.1] 3); have HA4 := Lib.hid (bel2 hA3 hA4); have HR4 := Lib.hid (row_below (row_below hr2 hA3) hA4); have HL4 := Lib.hid (readsI_lit (w2.alloc (.cells #[.int .i64 x.1, .int .i64 x.2] 57)) (w2.heap.size + 1) (by simp) [x.1] #[.int .i64 x.1] rfl); have hz4 : w.heap.size ≤ ((w2.alloc (.cells #[.int .i64 x.1, .int .i64 x.2] 57)).alloc (.cells #[.int .i64 x.1] 3)).heap.size := (by have := hm2.size; simp; omega); clear ht2 hm2 ho2 hr2 hA3 hA4) | (at_builtin; refine wp_catR rfl _ _ rfl w.heap.size ids [x.1] HR4.out hz4 (by simp) HL4.out rfl rfl hlen ?_; intro v6 w6 hr6 hg6; have HR6 := Lib.hid hr6; have HG6 := Lib.hid hg6; obtain ⟨p6, cap6, rfl⟩ := row_form hr6; clear hr6 hg6))
        have hlow : ∀ k, (Value.slice p ids.length cap).ownBlock = some k → w.heap.size ≤ k := fun k hk => (HR4.out.lt k hk).1
        have HT6 : Hid (Tm B v2 w6 S2) := Lib.hid (Tm.grown (HT2.out.below HA4.out) HG6.out (fun e => by have := hlow B e.symm; omega) (fun g hg e => by have a1 := hlow g e.symm; have a2 := HV.out g (by rw [← HO2.out]; exact hg); omega))
        have HM6 : Hid (Mv B v v2 w w6) := Lib.hid ((HM2.out.trans (Mv.of_below HA4.out B v2)).ext HG6.out hlow)
        have HR7 : Hid (w6.ownsRow w.heap.size 3 1 (.slice p6 (ids ++ [x.1]).length cap6) (ids ++ [x.1]).length (cellsI (ids ++ [x.1]))) := Lib.hid (by rw [List.length_append]; exact HR6.out)
        clear hlow hlen hz4 HR6 HG6 HR4 HL4
        go_roundg S2.length
        case measure => exact HGH.out
        case rel => exact ⟨S2, ids ++ [x.1], v2, p6, cap6, rfl, by simp, HT6.out, HM6.out, HO2.out, HR7.out, HFW.out, HE.out.1, HE.out.2⟩
      · have HI : Hid (Calls Try.prog 22 #[.pointer (some ⟨B, 0, none⟩), .int .i64 now] wr fun e w' => e = .returned (.bool false) ∧ Below wr.heap.size wr w') := Lib.hid (by have h := tm_due_cons B v' x S2 now wr HT.out; rwa [decide_eq_false hx] at h)
        have HE : Hid (r.1 = x :: S2 ∧ r.2 = ids) := Lib.hid (by
          have := HD.out
          rw [Tim.due_end x S2 now hx] at this
          exact ⟨this.1.symm, by rw [← this.2, List.append_nil]⟩)
        clear HD hx
        go_wp2_with (go_at_call 22; refine HI.out.mono ?_; rintro e w1 ⟨rfl, hb1⟩)
        go_ret
        obtain ⟨e1, e2⟩ := HE.out
        unfold DuePost
        rw [e1, e2]
        exact ⟨p, cap, rfl, row_below HW.out hb1, v', HT.out.below hb1, HM.out.trans (Mv.of_below hb1 B v'), HO.out⟩
end Go.Proofs.Ythbbeiflkiihdaa.Y
