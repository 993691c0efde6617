/-
  Stage 15: contracts of what acks the last request, of packets that are given an id.
-/
import Derived.Test.YteabkmelnoefiaaGreatDoorZ22
import Derived.Test.YteabkmelnoefiaaGreatDoorZ06
import Derived.Test.YteabkmelnoefiaaGreatDoorZ18
namespace Go.Proofs.YteabkmelnoefiaaGreatDoor.Ne
open Go.RowKit
set_option maxRecDepth 100000
set_option maxHeartbeats 1600000 in
theorem acked_any (m : Mem) (c i : Int) (v : Value) (os : List Opt.Op) (d : ByteArray) (w : World) (hr : ReadsO w v os) (hl : os.length ≤ 4611686018427387904) :
    Calls Tryz.prog 62 #[.agg (rqcs m).toArray, .agg #[.int .i64 c, .int .i64 i, v, .string d]] w fun e w' => e = .returned (.bool (m.sent && m.sid == i && decide ((Pol.ask m.link).1 = os))) ∧ Below w.heap.size w w' := by
  obtain ⟨w1, hw1⟩ : ∃ w1, w1 = (w.alloc (.cells (rqcs m).toArray 73)).alloc (.cells #[.int .i64 c, .int .i64 i, v, .string d] 36) := ⟨_, rfl⟩
  have HB : Hid (Below w.heap.size w w1) := Lib.hid (hw1 ▸ ((Below.refl w.heap.size w).alloc (Nat.le_refl _) _).alloc (by simp) _)
  have A1 : Hid (Arr w.heap.size w1 (rqcs m)) := Lib.hid (hw1 ▸ (Arr.new w (rqcs m) _).below ((Below.refl _ _).alloc (Nat.le_refl _) _))
  have A2 : Hid (Arr (w.heap.size + 1) w1 [.int .i64 c, .int .i64 i, v, .string d]) := Lib.hid (by
    have := Arr.new (w.alloc (.cells (rqcs m).toArray 73)) [.int .i64 c, .int .i64 i, v, .string d] 36
    rw [hw1]
    simpa using this)
  have HR := Lib.hid (hr.below HB.out)
  have AK := Lib.hid fun W => Pr.ask_any m.link W
  have HH := Lib.hid fun W => has_any m i W
  have EQ := Lib.hid fun va vb (la lb : List Opt.Op) W h1 h2 h3 h4 => equalO_any va vb la lb W h1 h2 h3 h4
  have HL := Lib.hid hl
  have HK : Hid ((Pol.ask m.link).1.length ≤ 4611686018427387904) := Lib.hid (by
    have := Pol.asks_length m.link
    unfold Pol.ask
    split <;> simp <;> omega)
  have L1 : Hid (∀ W, Below w1.heap.size w1 W → (loadVar 23 ⟨w.heap.size, 2, none⟩).run Tryz.prog W = .ok (Pl.lv m.link) W) := Lib.hid fun W hb => (A1.out.below hb).loadMid 2 (Pl.lcs m.link) (by intro j u hj; match j, hj with | 0, e => exact e | 1, e => exact e | 2, e => exact e | 3, e => exact e | 4, e => exact e | 5, e => exact e | j + 6, e => cases e) 23 _ Tryz.underlying23 rfl Pl.infoL
  have L2 : Hid (∀ W, Below w1.heap.size w1 W → (loadVar 73 ⟨w.heap.size, 0, none⟩).run Tryz.prog W = .ok (.agg (rqcs m).toArray) W) := Lib.hid fun W hb => (A1.out.below hb).loadMid 0 (rqcs m) (fun j u hj => by rw [Nat.zero_add]; exact hj) 73 _ Tryz.underlying73 rfl infoRq
  clear hr hl
  obtain ⟨K, hK⟩ : ∃ K, K = (Pol.ask m.link).1 := ⟨_, rfl⟩
  have KE := Lib.hid hK
  rw [← hK] at AK HK ⊢
  clear hK
  obtain ⟨E, hE⟩ : ∃ E, E = (Pol.ask m.link).2 := ⟨_, rfl⟩
  rw [← hE] at AK
  clear hE
  obtain ⟨b, hb0⟩ : ∃ b, b = (m.sent && m.sid == i) := ⟨_, rfl⟩
  rw [← hb0] at HH ⊢
  clear hb0
  cases b
  all_goals
    simp only [Bool.false_and, Bool.true_and]
    go_enter Tryz.func62, Tryz.ntmps62
    go_upto_region 1 with (fail)
    rw [← hw1]
    clear hw1
    go_wp2_with (first | (refine wpList_load rfl 23 _ rfl ⟨w.heap.size, 2, none⟩ _ rfl (L1.out _ (Below.refl _ _)) ?_) | (go_at_call 30; (refine (AK.out _).mono ?_); rintro e v1 ⟨u, rfl, hru, hb⟩; obtain ⟨pu, cu, _, _, rfl, _⟩ := hru.at; have HU := Lib.hid hru; have B1 := Lib.hid hb; clear hru hb) | (refine wpList_load rfl 73 _ rfl ⟨w.heap.size, 0, none⟩ _ rfl (L2.out _ B1.out) ?_; have k1 := (A2.out.below B1.out).cell 1 _ rfl; have hz1 := (A2.out.below B1.out).lt) | (go_at_call 63; (refine (HH.out _).mono ?_); rintro e v2 ⟨rfl, hb⟩; have B2 := Lib.hid (bel2 B1.out hb); have k2 := (A2.out.below B2.out).cell 2 _ rfl; have HU2 := Lib.hid (HU.out.below hb); clear hb) | (go_at_call 91; (refine (EQ.out _ _ K os _ HU2.out (HR.out.below B2.out) HK.out HL.out).mono ?_); rintro e v3 ⟨rfl, hb⟩; have B3 := Lib.hid (bel2 B2.out hb); clear hb))
    go_ret
  · exact ⟨rfl, bel2 HB.out B2.out⟩
  · exact ⟨rfl, bel2 HB.out B3.out⟩
/-- What numbering leaves. -/
def Two (B A : Nat) (k : Nat) : Prop := k = B ∨ k = A
set_option maxHeartbeats 1600000 in
theorem numbered_one (B A : Nat) (m : Mem) (q : Rk) (w : World) (h : Rg B w m) (hA0 : w.heap[A]? = some (.cells (pcs q).toArray 36 (0, 0))) (hne : A ≠ B) (hf : m.Fit) :
    Calls Tryz.prog 79 #[.pointer (some ⟨B, 0, none⟩), .slice (some ⟨A, 0, none⟩) 1 1] w fun e w' => e = .returned (.slice (some ⟨A, 0, none⟩) 1 1) ∧ Rg B w' { m with id := m.nxt } ∧ w'.heap[A]? = some (.cells (pcs (q.1, m.nxt, q.2.2)).toArray 36 (0, 0)) ∧ Chg (Two B A) w w' := by
  have hA : Arr A w (pcs q) := ⟨_, hA0⟩
  obtain ⟨x, hx⟩ : ∃ x, x = m.nxt := ⟨_, rfl⟩
  obtain ⟨hi0, hi1⟩ := hf.id
  have q2 : (m.id + 1).tmod 256 = x := by rw [hx]; exact Int.tmod_eq_emod_of_nonneg (by omega)
  have hx0 : 0 ≤ x ∧ x ≤ 255 := by rw [hx]; exact Ng.nxt_in m
  have q1 : wrap64 (m.id + 1) = m.id + 1 := IntWalk.wrap64_in _ ⟨by omega, by omega⟩
  have q3 : wrap64 x = x := IntWalk.wrap64_in _ ⟨by omega, by omega⟩
  rw [← hx]
  have h1 : Rg B (w.setCell ⟨B, 15, none⟩ (.int .i64 x)) { m with id := x } := h.setId x
  have h2 : Rg B ((w.setCell ⟨B, 15, none⟩ (.int .i64 x)).setCell ⟨A, 1, none⟩ (.int .i64 x)) { m with id := x } := Arr.grown h1 (grown_cell _ ⟨A, 1, none⟩ _) (by intro e; exact hne (Option.some.inj e).symm)
  have a1 : Arr A (w.setCell ⟨B, 15, none⟩ (.int .i64 x)) (pcs q) := hA.grown (grown_cell _ ⟨B, 15, none⟩ _) (by intro e; exact hne (Option.some.inj e))
  have a0 : (w.setCell ⟨B, 15, none⟩ (.int .i64 x)).heap[A]? = some (.cells (pcs q).toArray 36 (0, 0)) := (heap_setCell_other w ⟨B, 15, none⟩ A _ hne).trans hA0
  have a2 : ((w.setCell ⟨B, 15, none⟩ (.int .i64 x)).setCell ⟨A, 1, none⟩ (.int .i64 x)).heap[A]? = some (.cells (pcs (q.1, x, q.2.2)).toArray 36 (0, 0)) := by
    rw [heap_setCell_same _ A 1 _ _ _ a0, List.setIfInBounds_toArray]
    rfl
  have c1 : Chg (Two B A) w ((w.setCell ⟨B, 15, none⟩ (.int .i64 x)).setCell ⟨A, 1, none⟩ (.int .i64 x)) :=
    (Chg.of_grown (grown_cell w ⟨B, 15, none⟩ _) fun k e => .inr (.inl (Option.some.inj e).symm)).trans (Chg.of_grown (grown_cell _ ⟨A, 1, none⟩ _) fun k e => .inr (.inr (Option.some.inj e).symm))
  have H2 := Lib.hid h2
  have A2 := Lib.hid a2
  have C2 := Lib.hid c1
  obtain ⟨z, hz⟩ : ∃ z, z = m.id := ⟨_, rfl⟩
  have k15 : w.cell? ⟨B, 15, none⟩ = some (.int .i64 z) := by rw [hz]; exact Arr.cell h 15 _ rfl
  have f15 := Arr.frozen h 15
  have l15 : (w.setCell ⟨B, 15, none⟩ (.int .i64 x)).cell? ⟨B, 15, none⟩ = some (.int .i64 x) := Arr.cell h1 15 _ rfl
  have g1 : (w.setCell ⟨B, 15, none⟩ (.int .i64 x)).cell? ⟨A, 1, none⟩ = some (.int .i64 q.2.1) := Arr.cell a1 1 _ rfl
  have fA := Arr.frozen hA 1
  have hlt := h.lt
  have hltA := hA.lt
  have hix : ∀ W : World, (Instr.indexAt 39 (.slice (some ⟨A, 0, none⟩) 1 1) (.int .i64 0)).run Tryz.prog W = .ok (.pointer (some ⟨A, 0, none⟩)) W := fun W => by simpa using pks_index A 0 1 1 0 (by omega) W
  rw [← hz] at q1 q2
  clear h hA hA0 hf h1 h2 a0 a1 a2 c1 hx hz hi0 hi1 hx0
  go_enter Tryz.func79, Tryz.ntmps79
  go_wp2_with fail
  go_loopw [8] (fun i wr => (i = .int .i64 0 ∧ wr = w) ∨ (i = .int .i64 1 ∧ wr = (w.setCell ⟨B, 15, none⟩ (.int .i64 x)).setCell ⟨A, 1, none⟩ (.int .i64 x))) (fun i _ => 1 - (intOf i).toNat)
  case atStart => exact .inl ⟨rfl, rfl⟩
  case round =>
    rcases hrel with ⟨rfl, rfl⟩ | ⟨rfl, rfl⟩
    · go_wp2_with fail
      go_roundw
      case rel => exact .inr ⟨by go_num, by simp⟩
      case measure => simp [intOf]
    · go_wp2_with fail
      go_ret
      exact ⟨rfl, H2.out, A2.out, C2.out⟩
/-- The answers at hand: none, or one packet in block 'A'; its options lie in blocks from 'n' on. -/
def Ans (n A : Nat) (W : World) (v : Value) (qs : List Ctl.Pk) : Prop :=
  (qs = [] ∧ v = .slice none 0 0) ∨ ∃ q u, qs = [q] ∧ v = .slice (some ⟨A, 0, none⟩) 1 1 ∧ W.heap[A]? = some (.cells (pcs (q.1, q.2.1, u, q.2.2.2)).toArray 36 (0, 0)) ∧ n ≤ A ∧ Row n W u q.2.2.1
theorem Ans.few {n A : Nat} {W : World} {v : Value} {qs : List Ctl.Pk} (h : Ans n A W v qs) : qs.length ≤ 1 := by
  rcases h with ⟨rfl, _⟩ | ⟨q, u, rfl, _⟩ <;> simp
theorem Ans.nil (n A : Nat) (W : World) : Ans n A W (.slice none 0 0) [] := .inl ⟨rfl, rfl⟩
theorem lit_row (n A : Nat) (W : World) (r : Rk) (h : W.heap[A]? = some (.cells (pcs r).toArray 36 (0, 0))) (hn : n ≤ A) : W.ownsRow n 36 4 (.slice (some ⟨A, 0, none⟩) 1 1) 1 (cellsP [r]) :=
  ⟨rfl, .inr ⟨A, 1, _, rfl, hn, h, Nat.le_refl _, by unfold maxLen; omega, rfl, by simp [cellsP, pcs]⟩⟩
theorem Ans.packs {n A : Nat} {W : World} {v : Value} {qs : List Ctl.Pk} (h : Ans n A W v qs) : Packs n W v qs := by
  rcases h with ⟨rfl, rfl⟩ | ⟨q, u, rfl, rfl, hA, hn, hr⟩
  · exact Packs.nil n W
  · exact ⟨⟨[(q.1, q.2.1, u, q.2.2.2)], lit_row n A W _ hA hn, .cons ⟨rfl, rfl, rfl, hr⟩ .nil⟩⟩
theorem Ans.rowfar {n A : Nat} {W : World} {r : Rk} {u : Value} {os : List Opt.Op} (hA : W.heap[A]? = some (.cells (pcs r).toArray 36 (0, 0))) (hn : n ≤ A) (hr : Row n W u os) : ∀ g, u.ownBlock = some g → g ≠ A := by
  intro g hg e
  subst e
  exact hr.ne (lit_row n g W r hA hn) g rfl hg
/-- What lies elsewhere may change. -/
theorem Ans.chg {n A : Nat} {S : Nat → Prop} {W W' : World} {v : Value} {qs : List Ctl.Pk} (h : Ans n A W v qs) (k : Chg S W W') (hs : ∀ g, n ≤ g → ¬ S g) : Ans n A W' v qs := by
  rcases h with h | ⟨q, u, rfl, rfl, hA, hn, hr⟩
  · exact .inl h
  · exact .inr ⟨q, u, rfl, rfl, (k.kept A (Array.getElem?_eq_some_iff.1 hA).1 (hs A hn)).trans hA, hn, hr.chg k hs⟩
theorem Ans.below {n A : Nat} {W W' : World} {v : Value} {qs : List Ctl.Pk} (h : Ans n A W v qs) (k : Below W.heap.size W W') : Ans n A W' v qs := h.chg (S := fun _ => False) (Chg.of_below k) fun _ _ => id
theorem Ans.one {n A : Nat} {W : World} {v : Value} {q : Ctl.Pk} (h : Ans n A W v [q]) : ∃ u, v = .slice (some ⟨A, 0, none⟩) 1 1 ∧ W.heap[A]? = some (.cells (pcs (q.1, q.2.1, u, q.2.2.2)).toArray 36 (0, 0)) ∧ n ≤ A ∧ Row n W u q.2.2.1 := by
  rcases h with ⟨e, _⟩ | ⟨q', u, e, rfl, hA, hn, hr⟩
  · cases e
  · cases e
    exact ⟨u, rfl, hA, hn, hr⟩
/-- A packet just laid. -/
theorem Ans.lit {n : Nat} {W : World} {q : Ctl.Pk} {u : Value} (hr : Row n W u q.2.2.1) (hn : n ≤ W.heap.size) (t : Array Value) (ht : t = (pcs (q.1, q.2.1, u, q.2.2.2)).toArray) : Ans n W.heap.size (W.alloc (.cells t 36)) (.slice (some ⟨W.heap.size, 0, none⟩) 1 1) [q] := by
  subst ht
  exact .inr ⟨q, u, rfl, rfl, heap_alloc_new W _, hn, hr.below ((Below.refl _ W).alloc (Nat.le_refl _) _)⟩
theorem numbered_none (B : Nat) (w : World) :
    Calls Tryz.prog 79 #[.pointer (some ⟨B, 0, none⟩), .slice none 0 0] w fun e w' => e = .returned (.slice none 0 0) ∧ w = w' := by
  go_enter Tryz.func79, Tryz.ntmps79
  go_wp2_with fail
  go_loopw [8] (fun i wr => i = .int .i64 0 ∧ wr = w) (fun i _ => 0)
  case atStart => exact ⟨rfl, rfl⟩
  case round =>
    obtain ⟨rfl, rfl⟩ := hrel
    go_wp2_with fail
    go_ret
    exact ⟨rfl, rfl⟩
theorem numbered_any (n A B : Nat) (m : Mem) (v : Value) (qs : List Ctl.Pk) (w : World) (h : Rg B w m) (ha : Ans n A w v qs) (hne : qs = [] ∨ A ≠ B) (hB : B < n) (hf : m.Fit) :
    Calls Tryz.prog 79 #[.pointer (some ⟨B, 0, none⟩), v] w fun e w' => e = .returned v ∧ Rg B w' (Ng.numbered m qs).1 ∧ Ans n A w' v (Ng.numbered m qs).2 ∧ Chg (Two B A) w w' := by
  rcases ha with ⟨rfl, rfl⟩ | ⟨q, u, rfl, rfl, hA, hn, hr⟩
  · refine (numbered_none B w).mono ?_
    rintro e w' ⟨rfl, rfl⟩
    exact ⟨rfl, h, Ans.nil _ _ _, Chg.refl _ _⟩
  · have hne : A ≠ B := hne.resolve_left (by simp)
    refine (numbered_one B A m (q.1, q.2.1, u, q.2.2.2) w h hA hne hf).mono ?_
    rintro e w' ⟨rfl, h1, h2, h3⟩
    refine ⟨rfl, h1, .inr ⟨(q.1, m.nxt, q.2.2), u, rfl, rfl, h2, hn, hr.far h3 fun g hg e => ?_⟩, h3⟩
    rcases e with rfl | rfl
    · have := (hr.row.lt g hg).1; omega
    · exact Ans.rowfar hA hn hr g hg rfl
end Go.Proofs.YteabkmelnoefiaaGreatDoor.Ne
