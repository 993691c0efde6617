/-
  Stage 16: contracts of the program's messages: named, ask; of Start and Again.
-/
import Derived.Test.YtaagfmnpeimakaaDoorCp1
import Derived.Deep.DeepCutAuto
namespace Go.Proofs.YtaagfmnpeimakaaDoor.Cp
open Go.RowKit
set_option maxRecDepth 100000
def zc : List Value := [.int .i64 0, .int .i64 0, .string ⟨#[]⟩, .string ⟨#[]⟩]
/-- A message kept in the block that the function's result lies in. -/
theorem keep_msg {b : Nat} {w : World} {cs : List Value} (h : Arr b w cs) (hl : cs.length = 4) (m : Prf.Msg) :
    ∃ w', (storeVar 33 ⟨b, 0, none⟩ (mv m)).run Tryd.prog w = .ok () w' ∧ Arr b w' (mcs m) ∧ w.grownBy w' (some b) :=
  Arr.store h 33 infoC hl (one_mcs m)
set_option maxHeartbeats 1600000 in
theorem named_any (B : Nat) (p : Pf) (c i : Int) (v : List UInt8) (w : World) (h : Rg B w p) (hf : p.name.length ≤ 1000) :
    Calls Tryd.prog 39 #[.pointer (some ⟨B, 0, none⟩), .int .i64 c, .int .i64 i, .string ⟨v.toArray⟩] w fun e w' => e = .returned (mv (c, i, v, p.name)) ∧ Below w.heap.size w w' := by
  have CA := Lib.hid fun W => clone_any ⟨p.name.toArray⟩ W (by rw [sz]; omega)
  obtain ⟨w1, hw1⟩ : ∃ w1, w1 = w.alloc (.cells #[.int .i64 0, .int .i64 0, .string ⟨#[]⟩, .string ⟨#[]⟩] 33) := ⟨_, rfl⟩
  have HB : Hid (Below w.heap.size w w1) := Lib.hid (hw1 ▸ ((Below.refl w.heap.size w).alloc (Nat.le_refl _) _))
  have R1 : Hid (Arr w.heap.size w1 zc) := Lib.hid (hw1 ▸ Arr.new w zc _)
  have H1 := Lib.hid (h.below HB.out)
  have c6 := Arr.cell H1.out 6 _ rfl
  have hlt : B < w1.heap.size := H1.out.lt
  clear h hf H1
  go_enter Tryd.func39, Tryd.ntmps39
  go_upto_region 1 with (fail)
  rw [← hw1]
  clear hw1
  go_wp2_with (first | (go_at_call 25; (refine (CA.out _).mono ?_); rintro e v1 ⟨rfl, hb⟩; have HB2 := Lib.hid (bel2 HB.out hb); obtain ⟨v2, s2, a2, g2⟩ := keep_msg (R1.out.below hb) rfl (c, i, v, p.name); have HS := Lib.hid s2; have HZ := Lib.hid a2; have HB8 := Lib.hid (below_of_grown HB2.out g2 (Nat.le_refl _) rfl); clear hb s2 a2 g2) | (refine wpList_store rfl _ _ _ rfl ⟨w.heap.size, 0, none⟩ _ v2 rfl rfl HS.out ?_))
  have m0 := HZ.out.cell 0 _ rfl
  have m1 := HZ.out.cell 1 _ rfl
  have m2 := HZ.out.cell 2 _ rfl
  have m3 := HZ.out.cell 3 _ rfl
  exact bodyPost_ret (v := mv (c, i, v, p.name)) (by simp [results, Tryd.results39, go_sem, m0, m1, m2, m3]) rfl ⟨rfl, HB8.out⟩
set_option maxHeartbeats 1600000 in
theorem ask_any (B : Nat) (p : Pf) (w : World) (h : Rg B w p) (hf : p.name.length ≤ 1000) (hc : p.challenge.length ≤ 1000) :
    Calls Tryd.prog 30 #[.pointer (some ⟨B, 0, none⟩)] w fun e w' => e = .returned (mv (1, 1, p.challenge, p.name)) ∧ Below w.heap.size w w' := by
  have CA := Lib.hid fun W => clone_any ⟨p.challenge.toArray⟩ W (by rw [sz]; omega)
  have NM := Lib.hid fun W hW => named_any B p 1 1 p.challenge W hW hf
  obtain ⟨w1, hw1⟩ : ∃ w1, w1 = w.alloc (.cells #[.int .i64 0, .int .i64 0, .string ⟨#[]⟩, .string ⟨#[]⟩] 33) := ⟨_, rfl⟩
  have HB : Hid (Below w.heap.size w w1) := Lib.hid (hw1 ▸ ((Below.refl w.heap.size w).alloc (Nat.le_refl _) _))
  have R1 : Hid (Arr w.heap.size w1 zc) := Lib.hid (hw1 ▸ Arr.new w zc _)
  have H1 := Lib.hid (h.below HB.out)
  have c1 := Arr.cell H1.out 1 _ rfl
  have hlt : B < w1.heap.size := H1.out.lt
  clear h hf hc
  go_enter Tryd.func30, Tryd.ntmps30
  go_upto_region 1 with (fail)
  rw [← hw1]
  clear hw1
  go_wp2_with (first
    | (go_at_call 25; (refine (CA.out _).mono ?_); rintro e v1 ⟨rfl, hb⟩; have HB2 := Lib.hid (bel2 HB.out hb); have H2 := Lib.hid (H1.out.below hb); have R2 := Lib.hid (R1.out.below hb); clear hb)
    | (go_at_call 39; (refine (NM.out _ H2.out).mono ?_); rintro e v3 ⟨rfl, hb⟩; have HB3 := Lib.hid (bel2 HB2.out hb); obtain ⟨v4, s4, a4, g4⟩ := keep_msg (R2.out.below hb) rfl (1, 1, p.challenge, p.name); have HS := Lib.hid s4; have HZ := Lib.hid a4; have HB8 := Lib.hid (below_of_grown HB3.out g4 (Nat.le_refl _) rfl); clear hb s4 a4 g4)
    | (refine wpList_store rfl _ _ _ rfl ⟨w.heap.size, 0, none⟩ _ v4 rfl rfl HS.out ?_))
  have m0 := HZ.out.cell 0 _ rfl
  have m1 := HZ.out.cell 1 _ rfl
  have m2 := HZ.out.cell 2 _ rfl
  have m3 := HZ.out.cell 3 _ rfl
  exact bodyPost_ret (v := mv (1, 1, p.challenge, p.name)) (by simp [results, Tryd.results30, go_sem, m0, m1, m2, m3]) rfl ⟨rfl, HB8.out⟩
/-- What Start and Again leave. -/
abbrev MsgPost (B : Nat) (w : World) (r : Pf × Prf.Msg × Int) : Ending → World → Prop := fun e w' => e = .returned (.tuple #[mv r.2.1, .int .i64 r.2.2]) ∧ Rg B w' r.1 ∧ Chg (One B) w w'
/-- Behind a function whose result lies in a new block: the side, and what has changed. -/
theorem behind {B b : Nat} {w w1 a a' : World} {p : Pf} (hb : b = w.heap.size) (hB : B < w.heap.size) (h : Rg B a p) (k : Chg (One B) w1 a) (hw : Below w.heap.size w w1) (g : a.grownBy a' (some b)) : Rg B a' p ∧ Chg (One B) w a' := by
  subst hb
  have gk : Chg (fun k => w.heap.size ≤ k) a a' := Chg.of_grown g fun k e => .inr (by obtain rfl := Option.some.inj e; exact Nat.le_refl _)
  refine ⟨h.chg gk (by omega), ?_⟩
  exact gk.base (chg_below hw k) fun i hi e => by omega
set_option maxHeartbeats 1600000 in
theorem start_form (B : Nat) (p : Pf) (c : List UInt8) (w : World) (h : Rg B w p) (hc : c.length ≤ 4611686018427387904) (hm : Prf.mayCh c = false) :
    Calls Tryd.prog 12 #[.pointer (some ⟨B, 0, none⟩), .string ⟨c.toArray⟩] w (MsgPost B w (p, Chp.zero, 1600)) := by
  have MC := Lib.hid fun W => mayChallenge_any c W hc
  rw [hm] at MC
  obtain ⟨w1, hw1⟩ : ∃ w1, w1 = w.alloc (.cells #[.int .i64 0, .int .i64 0, .string ⟨#[]⟩, .string ⟨#[]⟩] 33) := ⟨_, rfl⟩
  have HB : Hid (Below w.heap.size w w1) := Lib.hid (hw1 ▸ ((Below.refl w.heap.size w).alloc (Nat.le_refl _) _))
  have R1 : Hid (Arr w.heap.size w1 zc) := Lib.hid (hw1 ▸ Arr.new w zc _)
  obtain ⟨v4, s4, a4, g4⟩ := keep_msg R1.out rfl Chp.zero
  have HE := Lib.hid (behind rfl h.lt (h.below HB.out) (Chg.refl (One B) w1) HB.out g4)
  have HS := Lib.hid s4
  have m0 := a4.cell 0 _ rfl
  have m1 := a4.cell 1 _ rfl
  have m2 := a4.cell 2 _ rfl
  have m3 := a4.cell 3 _ rfl
  clear h hm hc s4 a4 g4
  go_enter Tryd.func12, Tryd.ntmps12
  go_upto_region 1 with (fail)
  rw [← hw1]
  clear hw1
  go_wp2_with (first | (go_at_call 27; (refine (MC.out _).mono ?_); rintro e v1 ⟨rfl, rfl⟩) | (refine wpList_store rfl _ _ _ rfl ⟨w.heap.size, 0, none⟩ _ v4 rfl rfl HS.out ?_))
  exact bodyPost_ret (v := .tuple #[mv Chp.zero, .int .i64 1600]) (by simp [results, Tryd.results12, go_sem, m0, m1, m2, m3]) rfl ⟨rfl, HE.out⟩
set_option maxHeartbeats 1600000 in
theorem start_never (B : Nat) (p : Pf) (c : List UInt8) (w : World) (h : Rg B w p) (hc : c.length ≤ 4611686018427387904) (hm : Prf.mayCh c = true) (hn : p.challenge ≠ [] ∨ p.failed = true) :
    Calls Tryd.prog 12 #[.pointer (some ⟨B, 0, none⟩), .string ⟨c.toArray⟩] w (MsgPost B w (p, Chp.zero, 1601)) := by
  have MC := Lib.hid fun W => mayChallenge_any c W hc
  rw [hm] at MC
  obtain ⟨w1, hw1⟩ : ∃ w1, w1 = w.alloc (.cells #[.int .i64 0, .int .i64 0, .string ⟨#[]⟩, .string ⟨#[]⟩] 33) := ⟨_, rfl⟩
  have HB : Hid (Below w.heap.size w w1) := Lib.hid (hw1 ▸ ((Below.refl w.heap.size w).alloc (Nat.le_refl _) _))
  have R1 : Hid (Arr w.heap.size w1 zc) := Lib.hid (hw1 ▸ Arr.new w zc _)
  obtain ⟨v4, s4, a4, g4⟩ := keep_msg R1.out rfl Chp.zero
  have H1 := Lib.hid (h.below HB.out)
  have HE := Lib.hid (behind rfl h.lt (h.below HB.out) (Chg.refl (One B) w1) HB.out g4)
  have HS := Lib.hid s4
  have IS := Lib.hid (isStarted_any B p w1 H1.out)
  have c7 := Arr.cell H1.out 7 _ rfl
  have hlt := H1.out.lt
  have m0 := a4.cell 0 _ rfl
  have m1 := a4.cell 1 _ rfl
  have m2 := a4.cell 2 _ rfl
  have m3 := a4.cell 3 _ rfl
  clear h hm hc s4 a4 g4 H1
  cases hs : p.challenge.isEmpty
  · rw [hs] at IS
    go_enter Tryd.func12, Tryd.ntmps12
    go_upto_region 1 with (fail)
    rw [← hw1]
    clear hw1
    go_wp2_with (first | (go_at_call 27; (refine (MC.out _).mono ?_); rintro e v1 ⟨rfl, rfl⟩) | (go_at_call 28; (refine IS.out.mono ?_); rintro e v1 ⟨rfl, rfl⟩) | (refine wpList_store rfl _ _ _ rfl ⟨w.heap.size, 0, none⟩ _ v4 rfl rfl HS.out ?_))
    exact bodyPost_ret (v := .tuple #[mv Chp.zero, .int .i64 1601]) (by simp [results, Tryd.results12, go_sem, m0, m1, m2, m3]) rfl ⟨rfl, HE.out⟩
  · have hn2 : p.failed = true := hn.resolve_left (fun k => k (by simpa using hs))
    rw [hs] at IS
    rw [hn2] at c7
    clear hn
    go_enter Tryd.func12, Tryd.ntmps12
    go_upto_region 1 with (fail)
    rw [← hw1]
    clear hw1
    go_wp2_with (first | (go_at_call 27; (refine (MC.out _).mono ?_); rintro e v1 ⟨rfl, rfl⟩) | (go_at_call 28; (refine IS.out.mono ?_); rintro e v1 ⟨rfl, rfl⟩) | (refine wpList_store rfl _ _ _ rfl ⟨w.heap.size, 0, none⟩ _ v4 rfl rfl HS.out ?_))
    exact bodyPost_ret (v := .tuple #[mv Chp.zero, .int .i64 1601]) (by simp [results, Tryd.results12, go_sem, m0, m1, m2, m3]) rfl ⟨rfl, HE.out⟩
set_option maxHeartbeats 1600000 in
theorem start_good (B : Nat) (p : Pf) (c : List UInt8) (w : World) (h : Rg B w p) (hc : c.length ≤ 1000) (hf : p.name.length ≤ 1000) (hm : Prf.mayCh c = true) (hn : p.challenge = []) (hn2 : p.failed = false) :
    Calls Tryd.prog 12 #[.pointer (some ⟨B, 0, none⟩), .string ⟨c.toArray⟩] w (MsgPost B w ({ p with challenge := c }, (1, 1, c, p.name), 0)) := by
  have MC := Lib.hid fun W => mayChallenge_any c W (by omega)
  rw [hm] at MC
  obtain ⟨w1, hw1⟩ : ∃ w1, w1 = w.alloc (.cells #[.int .i64 0, .int .i64 0, .string ⟨#[]⟩, .string ⟨#[]⟩] 33) := ⟨_, rfl⟩
  have HB : Hid (Below w.heap.size w w1) := Lib.hid (hw1 ▸ ((Below.refl w.heap.size w).alloc (Nat.le_refl _) _))
  have R1 : Hid (Arr w.heap.size w1 zc) := Lib.hid (hw1 ▸ Arr.new w zc _)
  have H1 := Lib.hid (h.below HB.out)
  have IS := Lib.hid (isStarted_any B p w1 H1.out)
  rw [show p.challenge.isEmpty = true by rw [hn]; rfl] at IS
  have ST := Lib.hid (start_any B p c w1 H1.out hc)
  have c7 := Arr.cell H1.out 7 _ rfl
  rw [hn2] at c7
  have hlt := H1.out.lt
  have hB : Hid (B < w.heap.size) := Lib.hid h.lt
  have hne : Hid (¬ One B w.heap.size) := Lib.hid (fun e => by have := h.lt; omega)
  have AK := Lib.hid fun W hW => ask_any B { p with challenge := c } W hW hf hc
  clear h hm hc hn hn2 hf
  go_enter Tryd.func12, Tryd.ntmps12
  go_upto_region 1 with (fail)
  rw [← hw1]
  clear hw1
  go_wp2_with (first
    | (go_at_call 27; (refine (MC.out _).mono ?_); rintro e v1 ⟨rfl, rfl⟩)
    | (go_at_call 28; (refine IS.out.mono ?_); rintro e v1 ⟨rfl, rfl⟩)
    | (go_at_call 29; (refine ST.out.mono ?_); rintro e v2 ⟨rfl, hr, hk⟩; have H2 := Lib.hid hr; have C2 := Lib.hid hk; have R2 := Lib.hid (R1.out.chg hk hne.out); clear hr hk)
    | (go_at_call 30; (refine (AK.out _ H2.out).mono ?_); rintro e v3 ⟨rfl, hb⟩; obtain ⟨v4, s4, a4, g4⟩ := keep_msg (R2.out.below hb) rfl (1, 1, c, p.name); have HS := Lib.hid s4; have HZ := Lib.hid a4; have HE := Lib.hid (behind rfl hB.out (H2.out.below hb) (chg_then C2.out hb) HB.out g4); clear hb s4 a4 g4)
    | (refine wpList_store rfl _ _ _ rfl ⟨w.heap.size, 0, none⟩ _ v4 rfl rfl HS.out ?_))
  have m0 := HZ.out.cell 0 _ rfl
  have m1 := HZ.out.cell 1 _ rfl
  have m2 := HZ.out.cell 2 _ rfl
  have m3 := HZ.out.cell 3 _ rfl
  exact bodyPost_ret (v := .tuple #[mv (1, 1, c, p.name), .int .i64 0]) (by simp [results, Tryd.results12, go_sem, m0, m1, m2, m3]) rfl ⟨rfl, HE.out⟩
/-- The contract of Start. -/
theorem Start_any (B : Nat) (p : Pf) (c : List UInt8) (w : World) (h : Rg B w p) (hf : p.name.length ≤ 1000) (hc : c.length ≤ 4611686018427387904) :
    Calls Tryd.prog 12 #[.pointer (some ⟨B, 0, none⟩), .string ⟨c.toArray⟩] w (MsgPost B w (Prf.start p c)) := by
  unfold Prf.start
  cases hm : Prf.mayCh c
  · rw [if_pos rfl]
    exact start_form B p c w h hc hm
  · rw [if_neg (by decide)]
    have hc2 : c.length ≤ 255 := by
      unfold Prf.mayCh at hm
      simp only [Bool.and_eq_true, decide_eq_true_eq] at hm
      exact hm.2
    by_cases hn : p.challenge ≠ [] ∨ p.failed = true
    · rw [if_pos hn]
      exact start_never B p c w h hc hm hn
    · rw [if_neg hn]
      have h1 : p.challenge = [] := Decidable.byContradiction fun k => hn (.inl k)
      have h2 : p.failed = false := by
        cases hq : p.failed
        · rfl
        · exact absurd (.inr hq) hn
      exact start_good B p c w h (by omega) hf hm h1 h2
end Go.Proofs.YtaagfmnpeimakaaDoor.Cp
