/-
  Stage 16: contracts of the program's Again, of New.
-/
import Derived.Test.YtaagfmnpeimakaaDoorCp2
namespace Go.Proofs.YtaagfmnpeimakaaDoor.Cp
open Go.RowKit
set_option maxRecDepth 100000
set_option maxHeartbeats 1600000 in
theorem again_never (B : Nat) (p : Pf) (w : World) (h : Rg B w p) (hn : p.challenge = [] ∨ p.proved = true ∨ p.failed = true) :
    Calls Tryd.prog 14 #[.pointer (some ⟨B, 0, none⟩)] w (MsgPost B w (p, Chp.zero, 1601)) := by
  obtain ⟨w1, hw1⟩ : ∃ w1, w1 = w.alloc (.cells #[.int .i64 0, .int .i64 0, .string ⟨#[]⟩, .string ⟨#[]⟩] 33) := ⟨_, rfl⟩
  have HB : Hid (Below w.heap.size w w1) := Lib.hid (hw1 ▸ ((Below.refl w.heap.size w).alloc (Nat.le_refl _) _))
  have R1 : Hid (Arr w.heap.size w1 zc) := Lib.hid (hw1 ▸ Arr.new w zc _)
  obtain ⟨v4, s4, a4, g4⟩ := keep_msg R1.out rfl Chp.zero
  have H1 := Lib.hid (h.below HB.out)
  have HE := Lib.hid (behind rfl h.lt (h.below HB.out) (Chg.refl (One B) w1) HB.out g4)
  have HS := Lib.hid s4
  have IS := Lib.hid (isStarted_any B p w1 H1.out)
  have c3 := Arr.cell H1.out 3 _ rfl
  have c7 := Arr.cell H1.out 7 _ rfl
  have hlt := H1.out.lt
  have m0 := a4.cell 0 _ rfl
  have m1 := a4.cell 1 _ rfl
  have m2 := a4.cell 2 _ rfl
  have m3 := a4.cell 3 _ rfl
  clear h s4 a4 g4 H1
  cases hs : p.challenge.isEmpty
  · have hn2 := hn.resolve_left (fun k => by rw [k] at hs; cases hs)
    rw [hs] at IS
    clear hn hs
    cases hp : p.proved
    · rw [hp] at c3
      rw [hn2.resolve_left (fun k => by rw [hp] at k; cases k)] at c7
      clear hn2 hp
      go_enter Tryd.func14, Tryd.ntmps14
      go_upto_region 1 with (fail)
      rw [← hw1]
      clear hw1
      go_wp2_with (first | (go_at_call 28; (refine IS.out.mono ?_); rintro e v1 ⟨rfl, rfl⟩) | (refine wpList_store rfl _ _ _ rfl ⟨w.heap.size, 0, none⟩ _ v4 rfl rfl HS.out ?_))
      exact bodyPost_ret (v := .tuple #[mv Chp.zero, .int .i64 1601]) (by simp [results, Tryd.results14, go_sem, m0, m1, m2, m3]) rfl ⟨rfl, HE.out⟩
    · rw [hp] at c3
      clear hn2 hp c7
      go_enter Tryd.func14, Tryd.ntmps14
      go_upto_region 1 with (fail)
      rw [← hw1]
      clear hw1
      go_wp2_with (first | (go_at_call 28; (refine IS.out.mono ?_); rintro e v1 ⟨rfl, rfl⟩) | (refine wpList_store rfl _ _ _ rfl ⟨w.heap.size, 0, none⟩ _ v4 rfl rfl HS.out ?_))
      exact bodyPost_ret (v := .tuple #[mv Chp.zero, .int .i64 1601]) (by simp [results, Tryd.results14, go_sem, m0, m1, m2, m3]) rfl ⟨rfl, HE.out⟩
  · rw [hs] at IS
    clear hn c3 c7
    go_enter Tryd.func14, Tryd.ntmps14
    go_upto_region 1 with (fail)
    rw [← hw1]
    clear hw1
    go_wp2_with (first | (go_at_call 28; (refine IS.out.mono ?_); rintro e v1 ⟨rfl, rfl⟩) | (refine wpList_store rfl _ _ _ rfl ⟨w.heap.size, 0, none⟩ _ v4 rfl rfl HS.out ?_))
    exact bodyPost_ret (v := .tuple #[mv Chp.zero, .int .i64 1601]) (by simp [results, Tryd.results14, go_sem, m0, m1, m2, m3]) rfl ⟨rfl, HE.out⟩
set_option maxHeartbeats 1600000 in
theorem again_over (B : Nat) (p : Pf) (w : World) (h : Rg B w p) (hn : p.challenge ≠ []) (hp : p.proved = false) (hq : p.failed = false) (hl : -1000 ≤ p.left ∧ p.left ≤ 1) :
    Calls Tryd.prog 14 #[.pointer (some ⟨B, 0, none⟩)] w (MsgPost B w ({ p with left := p.left - 1, failed := true }, Chp.zero, 1601)) := by
  obtain ⟨w1, hw1⟩ : ∃ w1, w1 = w.alloc (.cells #[.int .i64 0, .int .i64 0, .string ⟨#[]⟩, .string ⟨#[]⟩] 33) := ⟨_, rfl⟩
  have HB : Hid (Below w.heap.size w w1) := Lib.hid (hw1 ▸ ((Below.refl w.heap.size w).alloc (Nat.le_refl _) _))
  have R1 : Hid (Arr w.heap.size w1 zc) := Lib.hid (hw1 ▸ Arr.new w zc _)
  have H1 := Lib.hid (h.below HB.out)
  have IS := Lib.hid (isStarted_any B p w1 H1.out)
  rw [show p.challenge.isEmpty = false by cases hc : p.challenge with | nil => exact absurd hc hn | cons => rfl] at IS
  have SP := Lib.hid (spend_any B p w1 H1.out ⟨by omega, by omega⟩)
  have ISP := Lib.hid fun W hW => isSpent_any B { p with left := p.left - 1 } W hW
  rw [show decide (({ p with left := p.left - 1 } : Pf).left ≤ 0) = true from decide_eq_true (by show p.left - 1 ≤ 0; omega)] at ISP
  have c3 := Arr.cell H1.out 3 _ rfl
  have c7 := Arr.cell H1.out 7 _ rfl
  rw [hp] at c3
  rw [hq] at c7
  have hlt := H1.out.lt
  have hB : Hid (B < w.heap.size) := Lib.hid h.lt
  have hne : Hid (¬ One B w.heap.size) := Lib.hid (fun e => by have := h.lt; omega)
  clear h hn hl H1
  go_enter Tryd.func14, Tryd.ntmps14
  go_upto_region 1 with (fail)
  rw [← hw1]
  clear hw1
  go_wp2_with (first
    | (go_at_call 28; (refine IS.out.mono ?_); rintro e v1 ⟨rfl, rfl⟩)
    | (go_at_call 32; (refine SP.out.mono ?_); rintro e v2 ⟨rfl, hr, hk⟩; have H2 := Lib.hid hr; have f7 := Arr.frozen H2.out 7; have k7 := Arr.cell H2.out 7 _ rfl; have z2 := H2.out.lt; obtain ⟨v3, hv3⟩ : ∃ v3, v3 = v2.setCell ⟨B, 7, none⟩ (.bool true) := ⟨_, rfl⟩; have H3 : Hid (Rg B v3 { p with left := p.left - 1, failed := true }) := Lib.hid (hv3 ▸ hr.setFailed true); have C3 : Hid (Chg (One B) w1 v3) := Lib.hid (hk.trans (hv3 ▸ one_cell v2 B 7 _)); obtain ⟨v4, s4, a4, g4⟩ := keep_msg (R1.out.chg C3.out hne.out) rfl Chp.zero; have HE := Lib.hid (behind rfl hB.out H3.out C3.out HB.out g4); rw [hv3] at s4; have HS := Lib.hid s4; have m0 := a4.cell 0 _ rfl; have m1 := a4.cell 1 _ rfl; have m2 := a4.cell 2 _ rfl; have m3 := a4.cell 3 _ rfl; clear hr hk s4 a4 g4 hv3)
    | (go_at_call 33; (refine (ISP.out _ H2.out).mono ?_); rintro e v1 ⟨rfl, rfl⟩)
    | (refine wpList_store rfl _ _ _ rfl ⟨w.heap.size, 0, none⟩ _ v4 rfl rfl HS.out ?_))
  exact bodyPost_ret (v := .tuple #[mv Chp.zero, .int .i64 1601]) (by simp [results, Tryd.results14, go_sem, m0, m1, m2, m3]) rfl ⟨rfl, HE.out⟩
set_option maxHeartbeats 1600000 in
theorem again_more (B : Nat) (p : Pf) (w : World) (h : Rg B w p) (hn : p.challenge ≠ []) (hp : p.proved = false) (hq : p.failed = false) (hl : 2 ≤ p.left ∧ p.left ≤ 1000) (hf : p.name.length ≤ 1000) (hc : p.challenge.length ≤ 1000) :
    Calls Tryd.prog 14 #[.pointer (some ⟨B, 0, none⟩)] w (MsgPost B w ({ p with left := p.left - 1 }, (1, 1, p.challenge, p.name), 0)) := by
  obtain ⟨w1, hw1⟩ : ∃ w1, w1 = w.alloc (.cells #[.int .i64 0, .int .i64 0, .string ⟨#[]⟩, .string ⟨#[]⟩] 33) := ⟨_, rfl⟩
  have HB : Hid (Below w.heap.size w w1) := Lib.hid (hw1 ▸ ((Below.refl w.heap.size w).alloc (Nat.le_refl _) _))
  have R1 : Hid (Arr w.heap.size w1 zc) := Lib.hid (hw1 ▸ Arr.new w zc _)
  have H1 := Lib.hid (h.below HB.out)
  have IS := Lib.hid (isStarted_any B p w1 H1.out)
  rw [show p.challenge.isEmpty = false by cases hc : p.challenge with | nil => exact absurd hc hn | cons => rfl] at IS
  have SP := Lib.hid (spend_any B p w1 H1.out ⟨by omega, by omega⟩)
  have ISP := Lib.hid fun W hW => isSpent_any B { p with left := p.left - 1 } W hW
  rw [show decide (({ p with left := p.left - 1 } : Pf).left ≤ 0) = false from decide_eq_false (by show ¬ p.left - 1 ≤ 0; omega)] at ISP
  have AK := Lib.hid fun W hW => ask_any B { p with left := p.left - 1 } W hW hf hc
  have c3 := Arr.cell H1.out 3 _ rfl
  have c7 := Arr.cell H1.out 7 _ rfl
  rw [hp] at c3
  rw [hq] at c7
  have hlt := H1.out.lt
  have hB : Hid (B < w.heap.size) := Lib.hid h.lt
  have hne : Hid (¬ One B w.heap.size) := Lib.hid (fun e => by have := h.lt; omega)
  clear h hn hl H1
  go_enter Tryd.func14, Tryd.ntmps14
  go_upto_region 1 with (fail)
  rw [← hw1]
  clear hw1
  go_wp2_with (first
    | (go_at_call 28; (refine IS.out.mono ?_); rintro e v1 ⟨rfl, rfl⟩)
    | (go_at_call 32; (refine SP.out.mono ?_); rintro e v2 ⟨rfl, hr, hk⟩; have H2 := Lib.hid hr; have C2 := Lib.hid hk; have R2 := Lib.hid (R1.out.chg hk hne.out); clear hr hk)
    | (go_at_call 33; (refine (ISP.out _ H2.out).mono ?_); rintro e v1 ⟨rfl, rfl⟩)
    | (go_at_call 30; (refine (AK.out _ H2.out).mono ?_); rintro e v3 ⟨rfl, hb⟩; obtain ⟨v4, s4, a4, g4⟩ := keep_msg (R2.out.below hb) rfl (1, 1, p.challenge, p.name); have HS := Lib.hid s4; have HZ := Lib.hid a4; have HE := Lib.hid (behind rfl hB.out (H2.out.below hb) (chg_then C2.out hb) HB.out g4); clear hb s4 a4 g4)
    | (refine wpList_store rfl _ _ _ rfl ⟨w.heap.size, 0, none⟩ _ v4 rfl rfl HS.out ?_))
  have m0 := HZ.out.cell 0 _ rfl
  have m1 := HZ.out.cell 1 _ rfl
  have m2 := HZ.out.cell 2 _ rfl
  have m3 := HZ.out.cell 3 _ rfl
  exact bodyPost_ret (v := .tuple #[mv (1, 1, p.challenge, p.name), .int .i64 0]) (by simp [results, Tryd.results14, go_sem, m0, m1, m2, m3]) rfl ⟨rfl, HE.out⟩
/-- The contract of Again. -/
theorem Again_any (B : Nat) (p : Pf) (w : World) (h : Rg B w p) (hf : p.Fit) :
    Calls Tryd.prog 14 #[.pointer (some ⟨B, 0, none⟩)] w (MsgPost B w (Prf.again p)) := by
  have hl := hf.left
  have hn := hf.name
  have hc := hf.challenge
  unfold Prf.again
  by_cases h1 : p.challenge = [] ∨ p.proved = true ∨ p.failed = true
  · rw [if_pos h1]
    exact again_never B p w h h1
  · rw [if_neg h1]
    have k1 : p.challenge ≠ [] := fun k => h1 (.inl k)
    have k2 : p.proved = false := by
      cases hq : p.proved
      · rfl
      · exact absurd (.inr (.inl hq)) h1
    have k3 : p.failed = false := by
      cases hq : p.failed
      · rfl
      · exact absurd (.inr (.inr hq)) h1
    have hlo := hf.low k3
    by_cases h2 : p.left ≤ 1
    · rw [if_pos h2]
      exact again_over B p w h k1 k2 k3 ⟨by omega, h2⟩
    · rw [if_neg h2]
      exact again_more B p w h k1 k2 k3 ⟨by omega, by omega⟩ (by omega) (by omega)
set_option maxHeartbeats 1600000 in
theorem new_good (n s x : List UInt8) (t : Int) (w : World) (hf : Prf.fine n s x t = true) :
    Calls Tryd.prog 8 #[.string ⟨n.toArray⟩, .string ⟨s.toArray⟩, .string ⟨x.toArray⟩, .int .i64 t] w
      fun e w' => ∃ B, e = .returned (.tuple #[.pointer (some ⟨B, 0, none⟩), .int .i64 0]) ∧ w.heap.size ≤ B ∧ Rg B w' (Prf.born n s x t) ∧ Below w.heap.size w w' := by
  obtain ⟨h1, h2, h3, h4, h5⟩ := Prf.fine_parts hf
  have l2 := (Prf.fits_len h2).2
  have l3 := (Prf.fits_len h3).2
  have MS := Lib.hid fun W => maySecret_any s W (by omega)
  have MX := Lib.hid fun W => maySecret_any x W (by omega)
  rw [h2] at MS
  rw [h3] at MX
  have CN := Lib.hid fun W => clone_any ⟨n.toArray⟩ W (by rw [sz]; omega)
  have CS := Lib.hid fun W => clone_any ⟨s.toArray⟩ W (by rw [sz]; omega)
  have CX := Lib.hid fun W => clone_any ⟨x.toArray⟩ W (by rw [sz]; omega)
  have q1 : ((ByteArray.mk n.toArray).size : Int) ≤ 32 := by rw [sz]; omega
  have h5 : t ≤ 10 := h5
  have NEW : Hid (∀ W : World, Rg W.heap.size (W.alloc (.cells #[.string ⟨x.toArray⟩, .string ⟨#[]⟩, .int .i64 t, .bool false, .string ⟨s.toArray⟩, .bool false, .string ⟨n.toArray⟩, .bool false] 66)) (Prf.born n s x t)) := Lib.hid fun W => Arr.new W (pcs (Prf.born n s x t)) _
  clear hf h1 h2 h3 l2 l3
  generalize ByteArray.mk n.toArray = N at *
  generalize ByteArray.mk s.toArray = S at *
  generalize ByteArray.mk x.toArray = X at *
  go_enter Tryd.func8, Tryd.ntmps8
  go_wp2_with (first
    | (go_at_call 24; (with_reducible refine (MS.out _).mono ?_); rintro e v1 ⟨rfl, rfl⟩)
    | (go_at_call 24; (with_reducible refine (MX.out _).mono ?_); rintro e v1 ⟨rfl, rfl⟩)
    | (go_at_call 25; (with_reducible refine (CX.out _).mono ?_); rintro e v1 ⟨rfl, hb1⟩; have B1 := Lib.hid hb1; clear hb1)
    | (go_at_call 25; (with_reducible refine (CS.out _).mono ?_); rintro e v2 ⟨rfl, hb2⟩; have B2 := Lib.hid (bel2 B1.out hb2); clear hb2)
    | (go_at_call 25; (with_reducible refine (CN.out _).mono ?_); rintro e v3 ⟨rfl, hb3⟩; have B3 := Lib.hid (bel2 B2.out hb3); clear hb3))
  go_ret2
  exact ⟨v3.heap.size, rfl, B3.out.size, NEW.out v3, B3.out.alloc B3.out.size _⟩
set_option maxHeartbeats 1600000 in
theorem new_bad (n s x : List UInt8) (t : Int) (w : World) (hf : Prf.fine n s x t = false) (hn : n.length ≤ 4611686018427387904) (hs : s.length ≤ 4611686018427387904) (hx : x.length ≤ 4611686018427387904) :
    Calls Tryd.prog 8 #[.string ⟨n.toArray⟩, .string ⟨s.toArray⟩, .string ⟨x.toArray⟩, .int .i64 t] w
      fun e w' => e = .returned (.tuple #[.pointer none, .int .i64 1600]) ∧ w = w' := by
  have MS := Lib.hid fun W => maySecret_any s W hs
  have MX := Lib.hid fun W => maySecret_any x W hx
  have hf2 : 32 < n.length ∨ t < 1 ∨ 10 < t ∨ Prf.fits s = false ∨ Prf.fits x = false := by
    unfold Prf.fine at hf
    simp only [Bool.and_eq_false_iff, decide_eq_false_iff_not] at hf
    rcases hf with (((h | h) | h) | h) | h
    · exact .inl (by omega)
    · exact .inr (.inr (.inr (.inl h)))
    · exact .inr (.inr (.inr (.inr h)))
    · exact .inr (.inl (by omega))
    · exact .inr (.inr (.inl (by omega)))
  clear hf hs hx
  rw [← sz n] at hf2 hn
  generalize Prf.fits s = p at *
  generalize Prf.fits x = q at *
  generalize ByteArray.mk n.toArray = N at *
  generalize ByteArray.mk s.toArray = S at *
  generalize ByteArray.mk x.toArray = X at *
  have go : ∀ (_ : 32 < (N.size : Int) ∨ (N.size : Int) ≤ 32 ∧ (t < 1 ∨ 1 ≤ t ∧ (10 < t ∨ t ≤ 10 ∧ (p = false ∨ p = true ∧ q = false)))), Calls Tryd.prog 8 #[.string N, .string S, .string X, .int .i64 t] w
      fun e w' => e = .returned (.tuple #[.pointer none, .int .i64 1600]) ∧ w = w' := by
    clear hf2
    rintro (h1 | ⟨h1, h2 | ⟨h2, h3 | ⟨h3, rfl | ⟨rfl, rfl⟩⟩⟩⟩)
    all_goals
      go_enter Tryd.func8, Tryd.ntmps8
      go_wp2_with (first
        | (go_at_call 24; (with_reducible refine (MS.out _).mono ?_); rintro e v1 ⟨rfl, rfl⟩)
        | (go_at_call 24; (with_reducible refine (MX.out _).mono ?_); rintro e v1 ⟨rfl, rfl⟩))
      go_ret2
      exact ⟨rfl, rfl⟩
  refine go ?_
  by_cases k1 : 32 < (N.size : Int)
  · exact .inl k1
  · refine .inr ⟨by omega, ?_⟩
    by_cases k2 : t < 1
    · exact .inl k2
    · refine .inr ⟨by omega, ?_⟩
      by_cases k3 : 10 < t
      · exact .inl k3
      · refine .inr ⟨by omega, ?_⟩
        cases p
        · exact .inl rfl
        · refine .inr ⟨rfl, ?_⟩
          rcases hf2 with h | h | h | h | h
          · omega
          · omega
          · omega
          · cases h
          · exact h
end Go.Proofs.YtaagfmnpeimakaaDoor.Cp
