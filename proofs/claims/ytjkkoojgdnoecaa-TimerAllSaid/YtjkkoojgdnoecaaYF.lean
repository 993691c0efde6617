/-
  Two machines of timers in a law; the walk of the law of what falls due in parts.
-/
import Derived.Test.YtjkkoojgdnoecaaYC
import Derived.Test.YtjkkoojgdnoecaaBits
import Derived.Test.YtjkkoojgdnoecaaAny
import Derived.StillTailTactics
namespace Go.Proofs.Ytjkkoojgdnoecaa.Tim
theorem due_two : ∀ (S : List T) (a b : Int), a ≤ b → due S b = ((due (due S a).1 b).1, (due S a).2 ++ (due (due S a).1 b).2)
  | [], a, b, _ => rfl
  | x :: S, a, b, h => by
    by_cases hx : x.2 ≤ a
    · rw [due_step x S a hx, due_step x S b (by omega), due_two S a b h]
      rfl
    · rw [due_end x S a hx]
      rfl
theorem due_few (S : List T) (a : Int) : (due S a).2.length ≤ S.length := by
  unfold due
  rw [List.length_map]
  exact (List.takeWhile_sublist _).length_le
end Go.Proofs.Ytjkkoojgdnoecaa.Tim
namespace Go.Proofs.Ytjkkoojgdnoecaa.Y
open Go.RowKit
/-- A law that began in 'w' holds two machines that it made itself. -/
structure Two (w : World) (B : Nat) (v : Value) (C : Nat) (u : Value) (w' : World) (S R : List Tim.T) : Prop where
  a : In w B v w' S
  b : In w C u w' R
  ap : Apart B v C u
theorem Two.symm {w w' : World} {B C : Nat} {v u : Value} {S R : List Tim.T} (h : Two w B v C u w' S R) : Two w C u B v w' R S := ⟨h.b, h.a, h.ap.symm⟩
theorem Two.left {w w' w'' : World} {B C : Nat} {v v' u : Value} {S S' R : List Tim.T} (h : Two w B v C u w' S R) (h1 : In w B v' w'' S') (m : Mv B v v' w' w'') : Two w B v' C u w'' S' R :=
  ⟨h1, ⟨h1.bel, h.b.tm.other m h.ap, h.b.lo⟩, h.ap.move m h.b.tm.lt fun k hk => (h.b.tm.row k hk).2⟩
theorem Two.below {w w' w'' : World} {B C : Nat} {v u : Value} {S R : List Tim.T} (h : Two w B v C u w' S R) (hb : Below w'.heap.size w' w'') : Two w B v C u w'' S R := ⟨h.a.below hb, h.b.below hb, h.ap⟩
theorem Two.drew {w w' : World} {B C : Nat} {v u : Value} {S R : List Tim.T} (h : Two w B v C u w' S R) : Two w B v C u w'.drew S R := h.below (Below.refl _ w').drew
theorem two_set {w w' : World} {B C : Nat} {v u : Value} {S S' R : List Tim.T} {id t r : Int} (h : Two w B v C u w' S R) (e : Tim.set S id t = (S', r)) :
    Calls Try.prog 9 #[.pointer (some ⟨B, 0, none⟩), .int .i64 id, .int .i64 t] w' fun e w'' => e = .returned (.int .i64 r) ∧ ∃ v', Two w B v' C u w'' S' R := by
  refine (t_set h.a e).mono ?_
  rintro e w'' ⟨rfl, v', h1, m⟩
  exact ⟨rfl, v', h.left h1 m⟩
/-- Integers in a row of the call's own, beside two machines. -/
structure Got (B : Nat) (v : Value) (C : Nat) (u : Value) (base : Nat) (va : Value) (ids : List Int) (w : World) : Prop where
  row : w.ownsRow base 3 1 va ids.length (cellsI ids)
  off : ∀ k, va.ownBlock = some k → k ≠ B ∧ v.ownBlock ≠ some k ∧ k ≠ C ∧ u.ownBlock ≠ some k
theorem Got.symm {B C : Nat} {v u va : Value} {base : Nat} {ids : List Int} {w : World} (h : Got B v C u base va ids w) : Got C u B v base va ids w :=
  ⟨h.row, fun k hk => ⟨(h.off k hk).2.2.1, (h.off k hk).2.2.2, (h.off k hk).1, (h.off k hk).2.1⟩⟩
theorem Got.left {B C : Nat} {v v' u va : Value} {base : Nat} {ids : List Int} {w w' : World} (h : Got B v C u base va ids w) (m : Mv B v v' w w') : Got B v' C u base va ids w' :=
  ⟨row_same h.row fun g hg => m.kept g (h.row.lt g hg).2 (h.off g hg).1 (h.off g hg).2.1, fun k hk => ⟨(h.off k hk).1, fun e => by
    rcases m.row k e with e | e
    · exact (h.off k hk).2.1 e
    · have := (h.row.lt k hk).2; omega, (h.off k hk).2.2⟩⟩
/-- What has fallen due, in a row of the call's own. -/
theorem two_due {w w' : World} {B C : Nat} {v u : Value} {S S' R : List Tim.T} {now : Int} {ids : List Int} (h : Two w B v C u w' S R) (e : Tim.due S now = (S', ids)) :
    Calls Try.prog 14 #[.pointer (some ⟨B, 0, none⟩), .int .i64 now] w' fun e w'' => ∃ p cap v', e = .returned (.slice p ids.length cap) ∧ Two w B v' C u w'' S' R ∧ Got B v' C u w'.heap.size (.slice p ids.length cap) ids w'' ∧ Mv B v v' w' w'' := by
  have := due_any B v S now w' h.a.tm
  rw [e] at this
  refine this.mono ?_
  rintro e w'' ⟨p, cap, rfl, hr, v', ht, hm, ho⟩
  refine ⟨p, cap, v', rfl, h.left (h.a.move ht hm) hm, ⟨hr, fun k hk => ⟨fun e => ?_, fun e => ?_, fun e => ?_, fun e => ?_⟩⟩, hm⟩
  · have := (hr.lt k hk).1; have := h.a.tm.lt; omega
  · rw [ho] at e
    have := (hr.lt k hk).1; have := (h.a.tm.row k e).2; omega
  · have := (hr.lt k hk).1; have := h.b.tm.lt; omega
  · have := (hr.lt k hk).1; have := (h.b.tm.row k e).2; omega
/-- More is pushed behind what fell due. -/
theorem two_pushed {w W w' : World} {B C : Nat} {v u va va' : Value} {S R : List Tim.T} {base : Nat} {ids ids' : List Int} (h : Two w B v C u W S R) (g : Got B v C u base va ids W) (hlo : w.heap.size ≤ base) (p : Pushed base W va ids' va' w') :
    Two w B v C u w' S R ∧ Got B v C u base va' ids' w' := by
  have hb : Below w.heap.size w w' := h.a.bel.grown p.grown h.a.bel.size fun k hk => Nat.le_trans hlo (g.row.lt k hk).1
  have ha : Tm B v w' S := h.a.tm.grown p.grown (fun e => (g.off B e.symm).1 rfl) fun k hk e => (g.off k e.symm).2.1 hk
  have hc : Tm C u w' R := h.b.tm.grown p.grown (fun e => (g.off C e.symm).2.2.1 rfl) fun k hk e => (g.off k e.symm).2.2.2 hk
  refine ⟨⟨⟨hb, ha, h.a.lo⟩, ⟨hb, hc, h.b.lo⟩, h.ap⟩, p.row, fun k hk => ?_⟩
  rcases p.lies k hk with e | e
  · exact g.off k e
  · refine ⟨fun e2 => ?_, fun e2 => ?_, fun e2 => ?_, fun e2 => ?_⟩
    · have := h.a.tm.lt; omega
    · have := (h.a.tm.row k e2).2; omega
    · have := h.b.tm.lt; omega
    · have := (h.b.tm.row k e2).2; omega
theorem t_two (w w0 : World) (hb : Below w.heap.size w w0) {B : Nat} {v : Value} {S : List Tim.T} (h : In w B v w0 S) : Calls Try.prog 8 #[] w0 fun e w' => ∃ C u, e = .returned (.pointer (some ⟨C, 0, none⟩)) ∧ Two w B v C u w' S [] := by
  have h2 := (tm_new w0)
  refine h2.mono ?_
  rintro e w' ⟨rfl, ht, hb', _⟩
  refine ⟨_, _, rfl, h.below hb', ⟨bel2 hb hb', ht, hb.size⟩, ⟨fun e => ?_, fun e => ?_, (fun e => by cases e), fun k _ e => by cases e⟩⟩
  · have := h.tm.lt; omega
  · have := (h.tm.row _ e).2; omega
set_option maxRecDepth 100000 in
set_option maxHeartbeats 6400000 in
theorem walk_timerParts (va : Value) (zs : List Int) (vb : Value) (ts : List Int) (x y : Int) (w : World) (hr : ReadsI w va zs) (hl : zs.length * 8 ≤ 140737488351232) (hs : ReadsI w vb ts) (hk : ts.length * 8 ≤ 140737488351232) (_ : (Lit.int .i64 x).wf = true) (_ : (Lit.int .i64 y).wf = true) :
    Calls Try.prog 6 #[va, vb, .int .i64 x, .int .i64 y] w fun e w' => e = .returned (.bool true) ∧ Below w.heap.size w w' := by
  obtain ⟨a, e1, ha⟩ := low_255 x
  obtain ⟨b, e2, hb⟩ := low_255 y
  obtain ⟨p0, cap0, b0, off0, rfl, _, _, hi0, hc0⟩ := hr.at
  obtain ⟨p1, cap1, b1, off1, rfl, _, _, hi1, hc1⟩ := hs.at
  have HI0 := Lib.hid hi0
  have HC0 := Lib.hid hc0
  have HI1 := Lib.hid hi1
  have HC1 := Lib.hid hc1
  clear hi0 hc0 hi1 hc1 hr hs
  go_enter Try.func6, Try.ntmps6
  go_wp2_with fail
  refine (awake_any _).mono ?_
  rintro e wa ⟨rfl, hba⟩
  have BA := Lib.hid hba
  clear hba
  go_wp2_with fail
  refine (t_new w wa BA.out).mono ?_
  rintro e w1 ⟨B, v, rfl, h1, _, _⟩
  have H1 := Lib.hid h1
  clear h1
  go_wp2_with fail
  refine (t_two w w1 H1.out.bel H1.out).mono ?_
  rintro e w2 ⟨C, u, rfl, h2⟩
  have H2 := Lib.hid h2
  clear h2
  go_wp2_with fail
  go_loopw [11] (fun i wr => ∃ (k : Nat) (v u : Value) (S : List Tim.T), k ≤ zs.length ∧ k ≤ ts.length ∧ k ≤ 60 ∧ i = .int .i64 k ∧ Two w B v C u wr S S) (fun i _ => 60 - (intOf i).toNat)
  case atStart => exact ⟨0, v, u, [], by omega, by omega, by omega, rfl, H2.out⟩
  case round =>
    clear H1 H2
    obtain ⟨k, v, u, S, hk1, hk2, hk3, rfl, ht⟩ := hrel
    have HT := Lib.hid ht
    clear ht
    by_cases hlt : k < zs.length ∧ k < ts.length ∧ k < 60
    · obtain ⟨l1, l2, l3⟩ := hlt
      have hi0 := HI0.out k l1
      have c0 := HC0.out k l1
      have hi1 := HI1.out k l2
      have c1 := HC1.out k l2
      obtain ⟨id, d1, _⟩ := low_63 zs[k]
      obtain ⟨t, d2, _⟩ := low_255 ts[k]
      generalize zs[k] = z at *
      generalize ts[k] = s at *
      obtain ⟨o8, ho8⟩ : ∃ o8, o8 = off0 + k := ⟨_, rfl⟩
      obtain ⟨o9, ho9⟩ : ∃ o9, o9 = off1 + k := ⟨_, rfl⟩
      rw [← ho8] at hi0 c0
      rw [← ho9] at hi1 c1
      clear ho8 ho9
      obtain ⟨S', r, hS⟩ : ∃ S' r, Tim.set S id t = (S', r) := ⟨_, _, rfl⟩
      have c2 := c0
      have c3 := c1
      rw [← HT.out.a.bel.cell (block_lt_of_cell c0)] at c2
      rw [← HT.out.a.bel.cell (block_lt_of_cell c1)] at c3
      have HS := Lib.hid (two_set HT.out.drew hS)
      have q1 : decide ((k : Int) < (zs.length : Int)) = true := decide_eq_true (by omega)
      have q2 : decide ((k : Int) < (ts.length : Int)) = true := decide_eq_true (by omega)
      have q3 : decide ((k : Int) < 60) = true := decide_eq_true (by omega)
      go_wp2_with fail
      go_still_tail 11, (by kernel_rfl)
      change wpList _ _ _ _ _ (World.drew _)
      go_wp2_with fail
      refine HS.out.mono ?_
      rintro e w3 ⟨rfl, v3, h3⟩
      have HR := Lib.hid (two_set h3.symm.drew hS)
      have c4 := c0
      have c5 := c1
      rw [← h3.a.bel.cell (block_lt_of_cell c0)] at c4
      rw [← h3.a.bel.cell (block_lt_of_cell c1)] at c5
      clear h3 HS c2 c3
      go_wp2_with fail
      go_still_tail 11, (by kernel_rfl)
      change wpList _ _ _ _ _ (World.drew _)
      go_wp2_with fail
      refine HR.out.mono ?_
      rintro e w4 ⟨rfl, u4, h4⟩
      have H4 := Lib.hid h4.symm
      clear h4 HR c4 c5
      go_wp2_with fail
      go_roundw
      case rel => exact ⟨k + 1, v3, u4, S', by omega, by omega, by omega, by go_num, H4.out⟩
      case measure => simp [intOf]; omega
    · have hend : (k : Int) = (zs.length : Int) ∨ ((k : Int) < (zs.length : Int) ∧ (k : Int) = (ts.length : Int)) ∨ ((k : Int) < (zs.length : Int) ∧ (k : Int) < (ts.length : Int) ∧ (k : Int) = 60) := by omega
      clear hlt hk1 hk2 hk3 HI0 HC0 HI1 HC1
      have hfew := HT.out.a.tm.ok.few
      have hab : (b : Int) < (a : Int) ∨ (a : Int) = (b : Int) ∨ (a : Int) < (b : Int) := by omega
      rcases hab with hab | hab | hab
      · obtain ⟨S1, i1, g1⟩ : ∃ S1 i1, Tim.due S (b : Int) = (S1, i1) := ⟨_, _, rfl⟩
        obtain ⟨S2, i2, g2⟩ : ∃ S2 i2, Tim.due S1 (a : Int) = (S2, i2) := ⟨_, _, rfl⟩
        have g3 : Tim.due S (a : Int) = (S2, i1 ++ i2) := by rw [Tim.due_two S b a (by omega), g1]; simp only [g2]
        have hlen : (i1.length + i2.length) * 8 ≤ 140737488355328 := by
          have h := Tim.due_few S a
          rw [g3] at h
          simp only [List.length_append] at h
          omega
        have G := Lib.hid (And.intro g2 g3)
        have HA := Lib.hid (two_due HT.out g1)
        have HZ : Hid (w.heap.size ≤ wr.heap.size) := Lib.hid HT.out.a.bel.size
        clear HT g1 g2 g3 hfew
        rcases hend with h | ⟨h1, h⟩ | ⟨h1, h2, h⟩
        all_goals
          go_wp2_with fail
          refine HA.out.mono ?_
          rintro e w5 ⟨p5, cap5, v5, rfl, h5, k5, m5⟩
          have HB := Lib.hid (two_due h5 G.out.1)
          have K5 := Lib.hid k5
          have Z5 : Hid (wr.heap.size ≤ w5.heap.size) := Lib.hid m5.size
          clear h5 k5 m5 HA
          go_wp2_with (first | (go_at_call 14; with_reducible refine HB.out.mono ?_; rintro e w6 ⟨p6, cap6, v6, rfl, h6, k6, m6⟩; have H6 := Lib.hid h6; have K6 := Lib.hid (K5.out.left m6); have R6 := Lib.hid (row_reads k6.row); have z6 : wr.heap.size ≤ w6.heap.size := Nat.le_trans Z5.out m6.size; clear h6 k6 m6) | (at_builtin; refine wp_catA rfl _ _ rfl wr.heap.size i1 i2 K6.out.row z6 R6.out rfl rfl hlen ?_; intro v7 w7 h7; obtain ⟨p7, cap7, rfl⟩ := row_form h7.row; have T7 := Lib.hid (two_pushed H6.out K6.out HZ.out h7); have HC := Lib.hid (two_due T7.out.1.symm G.out.2); clear h7) | (go_at_call 14; with_reducible refine HC.out.mono ?_; rintro e w8 ⟨p8, cap8, u8, rfl, h8, k8, m8⟩; have H8 := Lib.hid h8; have HSI := Lib.hid (sameI_yes (row_reads (T7.out.2.symm.left m8).row) (row_reads k8.row) (by rw [List.length_append]; omega)); rw [List.length_append] at HSI; clear h8 k8 m8) | (go_at_call 15; with_reducible refine HSI.out.mono ?_; rintro e w9 ⟨rfl, hb9⟩; have H9 := Lib.hid (H8.out.below hb9); clear hb9) | (go_at_call 18; with_reducible refine (t_len H9.out.b rfl).mono ?_; rintro e w10 ⟨rfl, rfl⟩) | (go_at_call 18; with_reducible refine (t_len H9.out.a rfl).mono ?_; rintro e w10 ⟨rfl, rfl⟩) | (go_at_call 10; with_reducible refine (num_any _ _).mono ?_; rintro e w11 ⟨rfl, rfl⟩))
          go_ret
          exact ⟨rfl, H9.out.a.bel⟩
      · have hba : b = a := by omega
        subst hba
        obtain ⟨S1, i1, g1⟩ : ∃ S1 i1, Tim.due S (b : Int) = (S1, i1) := ⟨_, _, rfl⟩
        obtain ⟨S2, i2, g2⟩ : ∃ S2 i2, Tim.due S1 (b : Int) = (S2, i2) := ⟨_, _, rfl⟩
        have g3 : Tim.due S (b : Int) = (S2, i1 ++ i2) := by rw [Tim.due_two S b b (by omega), g1]; simp only [g2]
        have hlen : (i1.length + i2.length) * 8 ≤ 140737488355328 := by
          have h := Tim.due_few S b
          rw [g3] at h
          simp only [List.length_append] at h
          omega
        have G := Lib.hid (And.intro g2 g3)
        have HA := Lib.hid (two_due HT.out g1)
        have HZ : Hid (w.heap.size ≤ wr.heap.size) := Lib.hid HT.out.a.bel.size
        clear HT g1 g2 g3 hfew
        rcases hend with h | ⟨h1, h⟩ | ⟨h1, h2, h⟩
        all_goals
          go_wp2_with fail
          refine HA.out.mono ?_
          rintro e w5 ⟨p5, cap5, v5, rfl, h5, k5, m5⟩
          have HB := Lib.hid (two_due h5 G.out.1)
          have K5 := Lib.hid k5
          have Z5 : Hid (wr.heap.size ≤ w5.heap.size) := Lib.hid m5.size
          clear h5 k5 m5 HA
          go_wp2_with (first | (go_at_call 14; with_reducible refine HB.out.mono ?_; rintro e w6 ⟨p6, cap6, v6, rfl, h6, k6, m6⟩; have H6 := Lib.hid h6; have K6 := Lib.hid (K5.out.left m6); have R6 := Lib.hid (row_reads k6.row); have z6 : wr.heap.size ≤ w6.heap.size := Nat.le_trans Z5.out m6.size; clear h6 k6 m6) | (at_builtin; refine wp_catA rfl _ _ rfl wr.heap.size i1 i2 K6.out.row z6 R6.out rfl rfl hlen ?_; intro v7 w7 h7; obtain ⟨p7, cap7, rfl⟩ := row_form h7.row; have T7 := Lib.hid (two_pushed H6.out K6.out HZ.out h7); have HC := Lib.hid (two_due T7.out.1.symm G.out.2); clear h7) | (go_at_call 14; with_reducible refine HC.out.mono ?_; rintro e w8 ⟨p8, cap8, u8, rfl, h8, k8, m8⟩; have H8 := Lib.hid h8; have HSI := Lib.hid (sameI_yes (row_reads (T7.out.2.symm.left m8).row) (row_reads k8.row) (by rw [List.length_append]; omega)); rw [List.length_append] at HSI; clear h8 k8 m8) | (go_at_call 15; with_reducible refine HSI.out.mono ?_; rintro e w9 ⟨rfl, hb9⟩; have H9 := Lib.hid (H8.out.below hb9); clear hb9) | (go_at_call 18; with_reducible refine (t_len H9.out.b rfl).mono ?_; rintro e w10 ⟨rfl, rfl⟩) | (go_at_call 18; with_reducible refine (t_len H9.out.a rfl).mono ?_; rintro e w10 ⟨rfl, rfl⟩) | (go_at_call 10; with_reducible refine (num_any _ _).mono ?_; rintro e w11 ⟨rfl, rfl⟩))
          go_ret
          exact ⟨rfl, H9.out.a.bel⟩
      · obtain ⟨S1, i1, g1⟩ : ∃ S1 i1, Tim.due S (a : Int) = (S1, i1) := ⟨_, _, rfl⟩
        obtain ⟨S2, i2, g2⟩ : ∃ S2 i2, Tim.due S1 (b : Int) = (S2, i2) := ⟨_, _, rfl⟩
        have g3 : Tim.due S (b : Int) = (S2, i1 ++ i2) := by rw [Tim.due_two S a b (by omega), g1]; simp only [g2]
        have hlen : (i1.length + i2.length) * 8 ≤ 140737488355328 := by
          have h := Tim.due_few S b
          rw [g3] at h
          simp only [List.length_append] at h
          omega
        have G := Lib.hid (And.intro g2 g3)
        have HA := Lib.hid (two_due HT.out g1)
        have HZ : Hid (w.heap.size ≤ wr.heap.size) := Lib.hid HT.out.a.bel.size
        clear HT g1 g2 g3 hfew
        rcases hend with h | ⟨h1, h⟩ | ⟨h1, h2, h⟩
        all_goals
          go_wp2_with fail
          refine HA.out.mono ?_
          rintro e w5 ⟨p5, cap5, v5, rfl, h5, k5, m5⟩
          have HB := Lib.hid (two_due h5 G.out.1)
          have K5 := Lib.hid k5
          have Z5 : Hid (wr.heap.size ≤ w5.heap.size) := Lib.hid m5.size
          clear h5 k5 m5 HA
          go_wp2_with (first | (go_at_call 14; with_reducible refine HB.out.mono ?_; rintro e w6 ⟨p6, cap6, v6, rfl, h6, k6, m6⟩; have H6 := Lib.hid h6; have K6 := Lib.hid (K5.out.left m6); have R6 := Lib.hid (row_reads k6.row); have z6 : wr.heap.size ≤ w6.heap.size := Nat.le_trans Z5.out m6.size; clear h6 k6 m6) | (at_builtin; refine wp_catA rfl _ _ rfl wr.heap.size i1 i2 K6.out.row z6 R6.out rfl rfl hlen ?_; intro v7 w7 h7; obtain ⟨p7, cap7, rfl⟩ := row_form h7.row; have T7 := Lib.hid (two_pushed H6.out K6.out HZ.out h7); have HC := Lib.hid (two_due T7.out.1.symm G.out.2); clear h7) | (go_at_call 14; with_reducible refine HC.out.mono ?_; rintro e w8 ⟨p8, cap8, u8, rfl, h8, k8, m8⟩; have H8 := Lib.hid h8; have HSI := Lib.hid (sameI_yes (row_reads (T7.out.2.symm.left m8).row) (row_reads k8.row) (by rw [List.length_append]; omega)); rw [List.length_append] at HSI; clear h8 k8 m8) | (go_at_call 15; with_reducible refine HSI.out.mono ?_; rintro e w9 ⟨rfl, hb9⟩; have H9 := Lib.hid (H8.out.below hb9); clear hb9) | (go_at_call 18; with_reducible refine (t_len H9.out.b rfl).mono ?_; rintro e w10 ⟨rfl, rfl⟩) | (go_at_call 18; with_reducible refine (t_len H9.out.a rfl).mono ?_; rintro e w10 ⟨rfl, rfl⟩) | (go_at_call 10; with_reducible refine (num_any _ _).mono ?_; rintro e w11 ⟨rfl, rfl⟩))
          go_ret
          exact ⟨rfl, H9.out.a.bel⟩
end Go.Proofs.Ytjkkoojgdnoecaa.Y
