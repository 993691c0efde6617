/-
  Stage 15: contract of an event's coming.
-/
import Derived.Test.YteabkmelnoefiaaGreatDoorZ24
namespace Go.Proofs.YteabkmelnoefiaaGreatDoor.Ne
open Go.RowKit
set_option maxRecDepth 100000
/-- Where the answers lie: nowhere, or in a block of their own. -/
def Off (A B : Nat) (qs : List Ctl.Pk) : Prop := (qs = [] ∧ A = B) ∨ (qs ≠ [] ∧ A ≠ B)
theorem Off.ne {A B : Nat} {qs : List Ctl.Pk} (h : Off A B qs) : qs = [] ∨ A ≠ B := h.elim (fun h => .inl h.1) fun h => .inr h.2
theorem numbered_nil (m : Mem) (qs : List Ctl.Pk) : (Ng.numbered m qs).2 = [] ↔ qs = [] := by
  cases qs <;> simp [Ng.numbered]
theorem mact_qs (ev : Int) (m : Mem) (qs : List Ctl.Pk) (a : Int) : (Ng.mact ev m qs a).2.1 = qs ∨ (Ng.mact ev m qs a).2.1 = (Ng.numbered m qs).2 := by
  unfold Ng.mact
  repeat' split
  all_goals first | exact .inl rfl | exact .inr rfl
theorem Off.act {A B : Nat} {qs : List Ctl.Pk} (h : Off A B qs) (ev : Int) (m : Mem) (a : Int) : Off A B (Ng.mact ev m qs a).2.1 := by
  rcases mact_qs ev m qs a with e | e
  · rw [e]; exact h
  · rw [e]
    unfold Off at *
    rw [ne_eq, numbered_nil]
    exact h
theorem small_numbered (qs : List Ctl.Pk) : ∀ (m : Mem), Small qs → Small (Ng.numbered m qs).2 := by
  induction qs with
  | nil => intro m h; exact h
  | cons p r ih =>
    intro m h q hq
    rcases List.mem_cons.1 hq with rfl | hq
    · exact h p (by simp)
    · exact ih _ (fun q hq => h q (by simp [hq])) q hq
theorem Small.act {qs : List Ctl.Pk} (h : Small qs) (ev : Int) (m : Mem) (a : Int) : Small (Ng.mact ev m qs a).2.1 := by
  rcases mact_qs ev m qs a with e | e
  · rw [e]; exact h
  · rw [e]; exact small_numbered qs m h
theorem Sames.two {n A B : Nat} {W W' : World} {rs : List Rk} {ps : List Ctl.Pk} (h : Sames n W rs ps) (k : Chg (Two B A) W W') (hB : B < n) (hA : A = B ∨ ∃ r, W.heap[A]? = some (.cells (pcs r).toArray 36 (0, 0)) ∧ n ≤ A) : Sames n W' rs ps := by
  induction h with
  | nil => exact .nil
  | cons h1 _ ih =>
    refine .cons ⟨h1.code, h1.id, h1.data, h1.opts.far k fun g hg e => ?_⟩ ih
    have hl := (h1.opts.row.lt g hg).1
    rcases e with rfl | rfl
    · omega
    · rcases hA with rfl | ⟨r, hA, hn⟩
      · omega
      · exact Ans.rowfar hA hn h1.opts g hg rfl
theorem Packs.two {n A B : Nat} {W W' : World} {u : Value} {ps : List Ctl.Pk} (h : Packs n W u ps) (k : Chg (Two B A) W W') (hB : B < n) (hu : ∀ g, u.ownBlock = some g → g ≠ A) (hA : A = B ∨ ∃ r, W.heap[A]? = some (.cells (pcs r).toArray 36 (0, 0)) ∧ n ≤ A) : Packs n W' u ps := by
  obtain ⟨rs, h1, h2⟩ := h.out
  refine ⟨rs, row_chg h1 k fun g hg e => ?_, Sames.two h2 k hB hA⟩
  rcases e with rfl | rfl
  · have := (h1.lt g hg).1; omega
  · exact hu g hg rfl
theorem Ans.spot {n A B : Nat} {W : World} {v : Value} {qs : List Ctl.Pk} (h : Ans n A W v qs) (ho : Off A B qs) : A = B ∨ ∃ r, W.heap[A]? = some (.cells (pcs r).toArray 36 (0, 0)) ∧ n ≤ A := by
  rcases h with ⟨rfl, _⟩ | ⟨q, u, rfl, _, hA, hn, _⟩
  · exact .inl (ho.elim (fun h => h.2) fun h => absurd rfl h.1)
  · exact .inr ⟨_, hA, hn⟩
theorem Ans.grown {n A : Nat} {W W' : World} {v u : Value} {qs ps : List Ctl.Pk} (h : Ans n A W v qs) (hu : Packs n W u ps) (hg : W.grownBy W' u.ownBlock) (hA : ∀ g, u.ownBlock = some g → g ≠ A) : Ans n A W' v qs := by
  rcases h with h | ⟨q, x, rfl, rfl, h1, hn, hr⟩
  · exact .inl h
  · obtain ⟨rs, k1, _⟩ := hu.out
    refine .inr ⟨q, x, rfl, rfl, (hg.block A (Array.getElem?_eq_some_iff.1 h1).1 fun e => hA A e.symm rfl).trans h1, hn, ?_⟩
    exact hr.far (S := fun g => u.ownBlock = some g) (Chg.of_grown hg fun _ e => .inr e) fun g e s => hr.ne k1 g s e
theorem int_reads {W : World} {b : Nat} {v : Value} {zs : List Int} (h : W.ownsRow b 3 1 v zs.length (cellsI zs)) : ReadsI W v zs := by
  have hc := fun g hg => h.cells (g := g) hg
  rcases h.2 with ⟨rfl, h0⟩ | ⟨g, cap, cur, rfl, _, _, hn, _⟩
  · obtain rfl : zs = [] := List.length_eq_zero_iff.1 h0
    exact readsI_nil W
  · refine .inr ⟨g, 0, cap, rfl, hn, fun j u hj => ?_⟩
    have := hc g rfl j u hj
    rwa [add_at] at this
/-- What holds behind each action. -/
structure Rel (n A B : Nat) (av : Value) (v1 wr : World) (u : Value) (s : Ng.St) (k : Nat) : Prop where
  packs : Packs n wr u s.2.2
  own : ∀ g, u.ownBlock = some g → v1.heap.size ≤ g
  reg : Rg B wr s.1
  ans : Ans n A wr av s.2.1
  chg : Chg (Two B A) v1 wr
  fit : s.1.Fit
  small : Small s.2.1
  off : Off A B s.2.1
  few : s.2.2.length ≤ k
/-- One action more: its packets behind the others. -/
theorem Rel.next {n A B : Nat} {av : Value} {v1 wr w2 w3 : World} {u u' : Value} {s : Ng.St} {k : Nat} {ev a : Int} (h : Rel n A B av v1 wr u s k) (hB : B < n) (hn : n ≤ v1.heap.size) (hA : A < v1.heap.size)
    (h2 : Packs n w2 u s.2.2) (hr2 : Rg B w2 (Ng.mact ev s.1 s.2.1 a).1) (ha2 : Ans n A w2 av (Ng.mact ev s.1 s.2.1 a).2.1) (hc2 : Chg (Two B A) wr w2)
    (h3 : Packs n w3 u' (s.2.2 ++ (Ng.mact ev s.1 s.2.1 a).2.2)) (ho3 : ∀ g, u'.ownBlock = some g → v1.heap.size ≤ g) (hg3 : w2.grownBy w3 u.ownBlock) : Rel n A B av v1 w3 u' (Ng.stp ev s a) (k + 1) := by
  have hl := h.ans.few
  have hf := Ng.mact_few ev s.1 s.2.1 a hl
  refine ⟨h3, ho3, Arr.grown hr2 hg3 fun e => ?_, ha2.grown h2 hg3 fun g hg e => ?_, ?_, Ng.mact_fit ev s.1 s.2.1 a h.fit, h.small.act ev s.1 a, h.off.act ev s.1 a, ?_⟩
  · have := h.own B e.symm; omega
  · have := h.own g hg; omega
  · exact (Chg.of_grown (S := fun g => u.ownBlock = some g) hg3 fun _ e => .inr e).base (h.chg.trans hc2) fun i hi e => by have := h.own i e; omega
  · show (s.2.2 ++ (Ng.mact ev s.1 s.2.1 a).2.2).length ≤ k + 1
    rw [List.length_append]
    have := h.few
    omega
abbrev ComePost (n A B : Nat) (w : World) (r : Mem × List Ctl.Pk × Int) : Ending → World → Prop := fun e w' => ∃ v, e = .returned (.tuple #[v, .int .i64 r.2.2]) ∧ Packs n w' v r.2.1 ∧ Rg B w' r.1 ∧ Chg (Two B A) w w'
set_option maxHeartbeats 1600000 in
theorem come_any (n A B : Nat) (m : Mem) (ev : Int) (av : Value) (qs : List Ctl.Pk) (w : World) (h : Rg B w m) (hf : m.Fit) (ha : Ans n A w av qs) (ho : Off A B qs) (hB : B < n) (hn : n ≤ w.heap.size) (hA : A < w.heap.size) (hs : Small qs) (hev : 0 ≤ ev ∧ ev ≤ 15) (ST : U.StepOk w) :
    Calls Tryz.prog 34 #[.pointer (some ⟨B, 0, none⟩), .int .i64 ev, av] w (ComePost n A B w (Ng.mrun m ev qs)) := by
  obtain ⟨t, L, E, hr⟩ : ∃ t L E, Fsm.step m.st ev = (t, L, E) := ⟨_, _, _, rfl⟩
  have hlt := h.lt
  by_cases hE : E = 0
  · subst hE
    have e1 : Ng.mrun m ev qs = ((Ng.macts ev { m with st := t } qs L).1, (Ng.macts ev { m with st := t } qs L).2.2, 0) := by unfold Ng.mrun; rw [hr]; rfl
    rw [e1]
    have T := Ng.table m.st ev hf.st hev
    rw [hr] at T
    obtain ⟨t1, t2, t3, t4⟩ := T
    clear t4
    have hfit : Ng.Mem.Fit { m with st := t } := ⟨⟨t1, t2⟩, hf.tries, hf.left, hf.id, hf.may, hf.oth⟩
    have S := Lib.hid (step_good B m ev t L w h ST hr)
    have HA := Lib.hid ha
    have HF := Lib.hid hfit
    have HS := Lib.hid hs
    have HO := Lib.hid ho
    replace t3 : L.length ≤ 4 := t3
    obtain ⟨m1, hm1⟩ : ∃ m1 : Mem, m1 = { m with st := t } := ⟨_, rfl⟩
    rw [← hm1] at S HF ⊢
    have SN := Lib.hid fun k hk => Ng.macts_snoc ev m1 qs L k hk
    have S0 : Hid (Ng.macts ev m1 qs (L.take 0) = (m1, qs, [])) := Lib.hid rfl
    clear hr e1 hfit hf ST hm1 h ha hs ho t1 t2 hev
    go_enter Tryz.func34, Tryz.ntmps34
    go_wp2_with fail
    refine S.out.mono ?_
    rintro e v1 ⟨p, cap, rfl, hrow, hreg, hgr⟩
    have C1 : Hid (Chg (Two B A) w v1) := Lib.hid (grown_two hgr)
    have hsz := hgr.size
    have ROW := Lib.hid hrow
    have R1 := Lib.hid hreg
    have A1 := Lib.hid (HA.out.offG hgr hB)
    obtain ⟨p', cap', b, off, e0, _, hp, hi, hc⟩ := ReadsI.at (int_reads hrow)
    obtain ⟨rfl, rfl⟩ : p' = p ∧ cap' = cap := by
      simp only [Value.slice.injEq, true_and] at e0
      exact ⟨e0.1.symm, e0.2.symm⟩
    have HI := Lib.hid hi
    have HC := Lib.hid hc
    have HP := Lib.hid hp
    clear e0 hp hi hc hgr hreg hrow S
    go_wp2_with fail
    go_loopw [10, 25] (fun u i wr => ∃ k : Nat, k ≤ L.length ∧ i = .int .i64 (k : Int) ∧ Rel n A B av v1 wr u (Ng.macts ev m1 qs (L.take k)) k) (fun _ i _ => L.length - (intOf i).toNat)
    case atStart =>
      refine ⟨0, Nat.zero_le _, rfl, ?_⟩
      rw [S0.out]
      exact ⟨Packs.nil _ _, fun g e => (by cases e), R1.out, A1.out, Chg.refl _ _, HF.out, HS.out, HO.out, Nat.le_refl _⟩
    case round =>
      obtain ⟨k, hk, rfl, hrel⟩ := hrel
      have HR := Lib.hid hrel
      clear hrel
      by_cases hlt2 : k < L.length
      · have hi := HI.out k hlt2
        have c0 := HC.out k hlt2
        have hpb := HP.out (by omega)
        have hb := (ROW.out.lt b (by rw [hpb]; rfl)).1
        have HN := Lib.hid (SN.out k hlt2)
        have hblk : ¬ Two B A b := fun e => by rcases e with rfl | rfl <;> omega
        have hbl := (ROW.out.lt b (by rw [hpb]; rfl)).2
        rw [← World.cell?_of_block (a := ⟨b, off + k, none⟩) (HR.out.chg.kept b hbl hblk)] at c0
        have ACT := Lib.hid (act_any n A B _ ev av _ wr HR.out.reg HR.out.fit HR.out.ans HR.out.off.ne hB (Nat.le_trans hn (Nat.le_trans hsz HR.out.chg.size)) L[k] HR.out.small)
        generalize Ng.macts ev m1 qs (L.take k) = s at *
        generalize L[k] = a at *
        obtain ⟨o8, ho8⟩ : ∃ o8, o8 = off + k := ⟨_, rfl⟩
        rw [← ho8] at hi c0
        clear ho8 hpb hblk hbl hb
        go_wp2_with (first
          | (go_at_call 52; (refine ACT.out.mono ?_); rintro e w2 ⟨v2, rfl, hp2, hr2, ha2, hc2⟩; have P2 := Lib.hid hp2; have R2 := Lib.hid hr2; have A2 := Lib.hid ha2; have C2 := Lib.hid hc2; have U2 := Lib.hid (Packs.two HR.out.packs hc2 hB (fun g hg e => by have := HR.out.own g hg; omega) (Ans.spot HR.out.ans HR.out.off)); have LN : Hid ((s.2.2.length + (Ng.mact ev s.1 s.2.1 a).2.2.length) * 56 ≤ 140737488355328) := Lib.hid (by have h1 := HR.out.few; have h2 := (Ng.mact_few ev s.1 s.2.1 a HR.out.ans.few).2; omega); clear hp2 hr2 ha2 hc2)
          | (at_builtin; refine wp_catP rfl _ _ rfl v1.heap.size n s.2.2 _ U2.out HR.out.own (Nat.le_trans HR.out.chg.size C2.out.size) (Nat.le_trans hn hsz) P2.out rfl rfl LN.out ?_; intro u3 w3 hp3 ho3 hg3; have R3 := Lib.hid (HR.out.next hB (Nat.le_trans hn hsz) (Nat.lt_of_lt_of_le hA hsz) U2.out R2.out A2.out C2.out hp3 ho3 hg3); clear hp3 ho3 hg3))
        go_roundw
        case rel => exact ⟨k + 1, by omega, by go_num, by rw [HN.out]; exact R3.out⟩
        case measure => simp [intOf]; omega
      · obtain rfl : k = L.length := by omega
        go_wp2_with fail
        go_ret2
        rw [List.take_length] at HR
        exact ⟨_, rfl, HR.out.packs, HR.out.reg, C1.out.trans HR.out.chg⟩
  · have e1 : Ng.mrun m ev qs = (m, [], 1501) := by unfold Ng.mrun; rw [hr]; exact if_neg hE
    rw [e1]
    have S := Lib.hid (step_bad B m ev t E L w h ST hr hE)
    have H := Lib.hid h
    have q : (E != 0) = true := by simpa using hE
    clear hr e1 hf ST h ha hs ho hev hE
    go_enter Tryz.func34, Tryz.ntmps34
    go_wp2_with fail
    refine S.out.mono ?_
    rintro e v1 ⟨rfl, hb⟩
    have B1 := Lib.hid hb
    clear hb S
    go_wp2_with fail
    go_ret2
    exact ⟨_, rfl, Packs.nil _ _, H.out.below B1.out, Chg.of_below B1.out⟩
end Go.Proofs.YteabkmelnoefiaaGreatDoor.Ne
