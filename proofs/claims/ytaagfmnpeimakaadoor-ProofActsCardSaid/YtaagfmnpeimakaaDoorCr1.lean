/-
  Stage 16: the document's own side in its block; contracts of NewProof, asks, Start, Again.
-/
import Derived.Test.YtaagfmnpeimakaaDoorCp2
import Derived.StillTailTactics
import Derived.BigRegion
import Derived.RegionTactic
namespace Go.Proofs.YtaagfmnpeimakaaDoor.Cp
open Go.RowKit
set_option maxRecDepth 100000
def rcs (p : Pf) : List Value := [.bool p.proved, .bool p.taken, .bool p.failed, .string ⟨p.name.toArray⟩, .string ⟨p.secret.toArray⟩, .string ⟨p.expect.toArray⟩, .string ⟨p.challenge.toArray⟩, .int .i64 p.left]
/-- Block 'B' holds this side of the document's own. -/
def Rf (B : Nat) (w : World) (p : Pf) : Prop := Arr B w (rcs p)
theorem Rf.lt {B : Nat} {w : World} {p : Pf} (h : Rf B w p) : B < w.heap.size := Arr.lt h
theorem Rf.below {B : Nat} {w w' : World} {p : Pf} (h : Rf B w p) (k : Below w.heap.size w w') : Rf B w' p := Arr.below h k
theorem Rf.chg {B : Nat} {S : Nat → Prop} {w w' : World} {p : Pf} (h : Rf B w p) (k : Chg S w w') (hne : ¬ S B) : Rf B w' p := Arr.chg h k hne
theorem Rf.setProved {B : Nat} {w : World} {p : Pf} (h : Rf B w p) (x : Bool) : Rf B (w.setCell ⟨B, 0, none⟩ (.bool x)) { p with proved := x } := Arr.set h 0 _
theorem Rf.setTaken {B : Nat} {w : World} {p : Pf} (h : Rf B w p) (x : Bool) : Rf B (w.setCell ⟨B, 1, none⟩ (.bool x)) { p with taken := x } := Arr.set h 1 _
theorem Rf.setFailed {B : Nat} {w : World} {p : Pf} (h : Rf B w p) (x : Bool) : Rf B (w.setCell ⟨B, 2, none⟩ (.bool x)) { p with failed := x } := Arr.set h 2 _
theorem Rf.setChallenge {B : Nat} {w : World} {p : Pf} (h : Rf B w p) (c : List UInt8) : Rf B (w.setCell ⟨B, 6, none⟩ (.string ⟨c.toArray⟩)) { p with challenge := c } := Arr.set h 6 _
theorem Rf.setLeft {B : Nat} {w : World} {p : Pf} (h : Rf B w p) (x : Int) : Rf B (w.setCell ⟨B, 7, none⟩ (.int .i64 x)) { p with left := x } := Arr.set h 7 _
abbrev RMsgPost (B : Nat) (w : World) (r : Pf × Prf.Msg × Int) : Ending → World → Prop := fun e w' => e = .returned (.tuple #[mv r.2.1, .int .i64 r.2.2]) ∧ Rf B w' r.1 ∧ Chg (One B) w w'
theorem rbehind {B b : Nat} {w w1 a a' : World} {p : Pf} (hb : b = w.heap.size) (hB : B < w.heap.size) (h : Rf B a p) (k : Chg (One B) w1 a) (hw : Below w.heap.size w w1) (g : a.grownBy a' (some b)) : Rf B a' p ∧ Chg (One B) w a' := by
  subst hb
  have gk : Chg (fun k => w.heap.size ≤ k) a a' := Chg.of_grown g fun k e => .inr (by obtain rfl := Option.some.inj e; exact Nat.le_refl _)
  refine ⟨h.chg gk (by omega), ?_⟩
  exact gk.base (chg_below hw k) fun i hi e => by omega
theorem rsecret_any (s : List UInt8) (w : World) (hs : s.length ≤ 4611686018427387904) : Calls Tryd.prog 26 #[.string ⟨s.toArray⟩] w fun e w' => e = .returned (.bool (Prf.fits s)) ∧ w = w' := by
  unfold Prf.fits
  rw [← sz s] at hs ⊢
  generalize ByteArray.mk s.toArray = D at *
  by_cases h1 : 1 ≤ D.size
  · have q1 : (1 : Int) ≤ (D.size : Int) := by omega
    by_cases h2 : D.size ≤ 64
    · have q2 : (D.size : Int) ≤ 64 := by omega
      go_enter Tryd.func26, Tryd.ntmps26
      go_wp2_with fail
      go_ret
      exact ⟨by simp; omega, rfl⟩
    · have q2 : ¬ (D.size : Int) ≤ 64 := by omega
      go_enter Tryd.func26, Tryd.ntmps26
      go_wp2_with fail
      go_ret
      exact ⟨by simp, rfl⟩
  · have q1 : ¬ (1 : Int) ≤ (D.size : Int) := by omega
    go_enter Tryd.func26, Tryd.ntmps26
    go_wp2_with fail
    go_ret
    exact ⟨by simp, rfl⟩
set_option maxHeartbeats 1600000 in
theorem rasks_any (B : Nat) (p : Pf) (w : World) (h : Rf B w p) :
    Calls Tryd.prog 31 #[.pointer (some ⟨B, 0, none⟩)] w fun e w' => e = .returned (mv (1, 1, p.challenge, p.name)) ∧ Below w.heap.size w w' := by
  obtain ⟨w1, hw1⟩ : ∃ w1, w1 = w.alloc (.cells #[.int .i64 0, .int .i64 0, .string ⟨#[]⟩, .string ⟨#[]⟩] 33) := ⟨_, rfl⟩
  have HB : Hid (Below w.heap.size w w1) := Lib.hid (hw1 ▸ ((Below.refl w.heap.size w).alloc (Nat.le_refl _) _))
  have R1 : Hid (Arr w.heap.size w1 zc) := Lib.hid (hw1 ▸ Arr.new w zc _)
  have H1 := Lib.hid (h.below HB.out)
  have c6 := Arr.cell H1.out 6 _ rfl
  have c3 := Arr.cell H1.out 3 _ rfl
  have hlt : B < w1.heap.size := H1.out.lt
  obtain ⟨v4, s4, a4, g4⟩ := keep_msg (w := w1.drew) (R1.out.below (Below.refl w1.heap.size w1).drew) rfl (1, 1, p.challenge, p.name)
  have HS := Lib.hid s4
  have HB8 := Lib.hid (below_of_grown (HB.out.trans ((Below.refl w1.heap.size w1).drew.mono HB.out.size)) g4 (Nat.le_refl _) rfl)
  have m0 := a4.cell 0 _ rfl
  have m1 := a4.cell 1 _ rfl
  have m2 := a4.cell 2 _ rfl
  have m3 := a4.cell 3 _ rfl
  clear h H1 s4 a4 g4
  go_enter Tryd.func31, Tryd.ntmps31
  go_upto_region 1 with (fail)
  rw [← hw1]
  clear hw1
  go_wp2_with fail
  go_still_tail 9, (by kernel_rfl)
  change wpList _ _ _ _ _ (World.drew _)
  go_wp2_with (refine wpList_store rfl _ _ _ rfl ⟨w.heap.size, 0, none⟩ _ v4 rfl rfl HS.out ?_)
  exact bodyPost_ret (v := mv (1, 1, p.challenge, p.name)) (by simp [results, Tryd.results31, go_sem, m0, m1, m2, m3]) rfl ⟨rfl, HB8.out⟩
set_option maxHeartbeats 1600000 in
theorem rstart_form (B : Nat) (p : Pf) (c : List UInt8) (w : World) (h : Rf B w p) (hc : c.length ≤ 4611686018427387904) (hm : Prf.mayCh c = false) :
    Calls Tryd.prog 13 #[.pointer (some ⟨B, 0, none⟩), .string ⟨c.toArray⟩] w (RMsgPost B w (p, Chp.zero, 1600)) := by
  have hz : c.length < 1 ∨ 1 ≤ c.length ∧ 255 < c.length := by
    unfold Prf.mayCh at hm
    simp only [Bool.and_eq_false_iff, decide_eq_false_iff_not] at hm
    omega
  rw [← sz c] at hz hc
  obtain ⟨w1, hw1⟩ : ∃ w1, w1 = w.alloc (.cells #[.int .i64 0, .int .i64 0, .string ⟨#[]⟩, .string ⟨#[]⟩] 33) := ⟨_, rfl⟩
  have HB : Hid (Below w.heap.size w w1) := Lib.hid (hw1 ▸ ((Below.refl w.heap.size w).alloc (Nat.le_refl _) _))
  have R1 : Hid (Arr w.heap.size w1 zc) := Lib.hid (hw1 ▸ Arr.new w zc _)
  obtain ⟨v4, s4, a4, g4⟩ := keep_msg R1.out rfl Chp.zero
  have HE := Lib.hid (rbehind rfl h.lt (h.below HB.out) (Chg.refl (One B) w1) HB.out g4)
  have HS := Lib.hid s4
  have m0 := a4.cell 0 _ rfl
  have m1 := a4.cell 1 _ rfl
  have m2 := a4.cell 2 _ rfl
  have m3 := a4.cell 3 _ rfl
  clear h hm s4 a4 g4
  generalize ByteArray.mk c.toArray = D at *
  rcases hz with hz | ⟨hz1, hz2⟩
  · have q1 : (D.size : Int) < 1 := by omega
    go_enter Tryd.func13, Tryd.ntmps13
    go_upto_region 1 with (fail)
    rw [← hw1]
    clear hw1
    go_wp2_with (refine wpList_store rfl _ _ _ rfl ⟨w.heap.size, 0, none⟩ _ v4 rfl rfl HS.out ?_)
    exact bodyPost_ret (v := .tuple #[mv Chp.zero, .int .i64 1600]) (by simp [results, Tryd.results13, go_sem, m0, m1, m2, m3]) rfl ⟨rfl, HE.out⟩
  · have q1 : ¬ (D.size : Int) < 1 := by omega
    have q2 : (255 : Int) < (D.size : Int) := by omega
    go_enter Tryd.func13, Tryd.ntmps13
    go_upto_region 1 with (fail)
    rw [← hw1]
    clear hw1
    go_wp2_with (refine wpList_store rfl _ _ _ rfl ⟨w.heap.size, 0, none⟩ _ v4 rfl rfl HS.out ?_)
    exact bodyPost_ret (v := .tuple #[mv Chp.zero, .int .i64 1600]) (by simp [results, Tryd.results13, go_sem, m0, m1, m2, m3]) rfl ⟨rfl, HE.out⟩
theorem mayCh_len {c : List UInt8} (h : Prf.mayCh c = true) : 1 ≤ (ByteArray.mk c.toArray).size ∧ (ByteArray.mk c.toArray).size ≤ 255 := by
  rw [sz]
  unfold Prf.mayCh at h
  simpa using h
set_option maxHeartbeats 1600000 in
theorem rstart_never (B : Nat) (p : Pf) (c : List UInt8) (w : World) (h : Rf B w p) (hm : Prf.mayCh c = true) (hn : p.challenge ≠ [] ∨ p.failed = true) :
    Calls Tryd.prog 13 #[.pointer (some ⟨B, 0, none⟩), .string ⟨c.toArray⟩] w (RMsgPost B w (p, Chp.zero, 1601)) := by
  obtain ⟨z1, z2⟩ := mayCh_len hm
  generalize ByteArray.mk c.toArray = D at *
  have q1 : ¬ (D.size : Int) < 1 := by omega
  have q2 : ¬ (255 : Int) < (D.size : Int) := by omega
  obtain ⟨w1, hw1⟩ : ∃ w1, w1 = w.alloc (.cells #[.int .i64 0, .int .i64 0, .string ⟨#[]⟩, .string ⟨#[]⟩] 33) := ⟨_, rfl⟩
  have HB : Hid (Below w.heap.size w w1) := Lib.hid (hw1 ▸ ((Below.refl w.heap.size w).alloc (Nat.le_refl _) _))
  have R1 : Hid (Arr w.heap.size w1 zc) := Lib.hid (hw1 ▸ Arr.new w zc _)
  obtain ⟨v4, s4, a4, g4⟩ := keep_msg R1.out rfl Chp.zero
  have H1 := Lib.hid (h.below HB.out)
  have HE := Lib.hid (rbehind rfl h.lt (h.below HB.out) (Chg.refl (One B) w1) HB.out g4)
  have HS := Lib.hid s4
  have c6 := Arr.cell H1.out 6 _ rfl
  have c2 := Arr.cell H1.out 2 _ rfl
  have hlt := H1.out.lt
  have m0 := a4.cell 0 _ rfl
  have m1 := a4.cell 1 _ rfl
  have m2 := a4.cell 2 _ rfl
  have m3 := a4.cell 3 _ rfl
  have ec := empty_text p.challenge
  generalize ByteArray.mk p.challenge.toArray = E at *
  clear h hm s4 a4 g4 H1
  cases hs : E.toList.isEmpty
  · clear hn ec
    go_enter Tryd.func13, Tryd.ntmps13
    go_upto_region 1 with (fail)
    rw [← hw1]
    clear hw1
    go_wp2_with (refine wpList_store rfl _ _ _ rfl ⟨w.heap.size, 0, none⟩ _ v4 rfl rfl HS.out ?_)
    exact bodyPost_ret (v := .tuple #[mv Chp.zero, .int .i64 1601]) (by simp [results, Tryd.results13, go_sem, m0, m1, m2, m3]) rfl ⟨rfl, HE.out⟩
  · have hn2 : p.failed = true := hn.resolve_left (fun k => k (by rw [ec] at hs; simpa using hs))
    rw [hn2] at c2
    clear hn ec
    go_enter Tryd.func13, Tryd.ntmps13
    go_upto_region 1 with (fail)
    rw [← hw1]
    clear hw1
    go_wp2_with (refine wpList_store rfl _ _ _ rfl ⟨w.heap.size, 0, none⟩ _ v4 rfl rfl HS.out ?_)
    exact bodyPost_ret (v := .tuple #[mv Chp.zero, .int .i64 1601]) (by simp [results, Tryd.results13, go_sem, m0, m1, m2, m3]) rfl ⟨rfl, HE.out⟩
set_option maxHeartbeats 1600000 in
theorem rstart_good (B : Nat) (p : Pf) (c : List UInt8) (w : World) (h : Rf B w p) (hm : Prf.mayCh c = true) (hn : p.challenge = []) (hn2 : p.failed = false) :
    Calls Tryd.prog 13 #[.pointer (some ⟨B, 0, none⟩), .string ⟨c.toArray⟩] w (RMsgPost B w ({ p with challenge := c }, (1, 1, c, p.name), 0)) := by
  obtain ⟨z1, z2⟩ := mayCh_len hm
  rw [sz] at z1 z2
  have q1 : ¬ (c.length : Int) < 1 := by omega
  have q2 : ¬ (255 : Int) < (c.length : Int) := by omega
  obtain ⟨w1, hw1⟩ : ∃ w1, w1 = w.alloc (.cells #[.int .i64 0, .int .i64 0, .string ⟨#[]⟩, .string ⟨#[]⟩] 33) := ⟨_, rfl⟩
  have HB : Hid (Below w.heap.size w w1) := Lib.hid (hw1 ▸ ((Below.refl w.heap.size w).alloc (Nat.le_refl _) _))
  have R1 : Hid (Arr w.heap.size w1 zc) := Lib.hid (hw1 ▸ Arr.new w zc _)
  have H1 := h.below HB.out
  have hne : ¬ One B w.heap.size := fun e => by have := h.lt; omega
  obtain ⟨w2, hw2⟩ : ∃ w2, w2 = w1.setCell ⟨B, 6, none⟩ (.string ⟨c.toArray⟩) := ⟨_, rfl⟩
  have H2 : Hid (Rf B w2 { p with challenge := c }) := Lib.hid (hw2 ▸ H1.setChallenge c)
  have C2 : Hid (Chg (One B) w1 w2) := Lib.hid (hw2 ▸ one_cell _ _ _ _)
  have R2 := Lib.hid (R1.out.chg C2.out hne)
  have hB : Hid (B < w.heap.size) := Lib.hid h.lt
  have AK := Lib.hid (rasks_any B { p with challenge := c } w2 H2.out)
  have c6 : w1.cell? ⟨B, 6, none⟩ = some (.string { data := #[] }) := by
    have := Arr.cell H1 6 _ rfl
    rwa [hn] at this
  have f6 := Arr.frozen H1 6
  have c2 := Arr.cell H1 2 _ rfl
  rw [hn2] at c2
  have hlt := H1.lt
  clear h hn hn2 hm H1 z1 z2
  go_enter Tryd.func13, Tryd.ntmps13
  go_upto_region 1 with (fail)
  rw [← hw1]
  clear hw1
  go_upto_region 6 with (fail)
  rw [← hw2]
  clear hw2
  go_wp2_with (first
    | (go_at_call 31; (refine AK.out.mono ?_); rintro e v3 ⟨rfl, hb⟩; obtain ⟨v4, s4, a4, g4⟩ := keep_msg (R2.out.below hb) rfl (1, 1, c, p.name); have HS := Lib.hid s4; have HZ := Lib.hid a4; have HE := Lib.hid (rbehind rfl hB.out (H2.out.below hb) (chg_then C2.out hb) HB.out g4); clear hb s4 a4 g4)
    | (refine wpList_store rfl _ _ _ rfl ⟨w.heap.size, 0, none⟩ _ v4 rfl rfl HS.out ?_))
  have m0 := HZ.out.cell 0 _ rfl
  have m1 := HZ.out.cell 1 _ rfl
  have m2 := HZ.out.cell 2 _ rfl
  have m3 := HZ.out.cell 3 _ rfl
  exact bodyPost_ret (v := .tuple #[mv (1, 1, c, p.name), .int .i64 0]) (by simp [results, Tryd.results13, go_sem, m0, m1, m2, m3]) rfl ⟨rfl, HE.out⟩
/-- The contract of the document's Start. -/
theorem rStart_any (B : Nat) (p : Pf) (c : List UInt8) (w : World) (h : Rf B w p) (hc : c.length ≤ 4611686018427387904) :
    Calls Tryd.prog 13 #[.pointer (some ⟨B, 0, none⟩), .string ⟨c.toArray⟩] w (RMsgPost B w (Prf.start p c)) := by
  unfold Prf.start
  cases hm : Prf.mayCh c
  · rw [if_pos rfl]
    exact rstart_form B p c w h hc hm
  · rw [if_neg (by decide)]
    by_cases hn : p.challenge ≠ [] ∨ p.failed = true
    · rw [if_pos hn]
      exact rstart_never B p c w h hm hn
    · rw [if_neg hn]
      have h1 : p.challenge = [] := Decidable.byContradiction fun k => hn (.inl k)
      have h2 : p.failed = false := by
        cases hq : p.failed
        · rfl
        · exact absurd (.inr hq) hn
      exact rstart_good B p c w h hm h1 h2
set_option maxHeartbeats 1600000 in
theorem ragain_never (B : Nat) (p : Pf) (w : World) (h : Rf B w p) (hn : p.challenge = [] ∨ p.proved = true ∨ p.failed = true) :
    Calls Tryd.prog 15 #[.pointer (some ⟨B, 0, none⟩)] w (RMsgPost B w (p, Chp.zero, 1601)) := by
  obtain ⟨w1, hw1⟩ : ∃ w1, w1 = w.alloc (.cells #[.int .i64 0, .int .i64 0, .string ⟨#[]⟩, .string ⟨#[]⟩] 33) := ⟨_, rfl⟩
  have HB : Hid (Below w.heap.size w w1) := Lib.hid (hw1 ▸ ((Below.refl w.heap.size w).alloc (Nat.le_refl _) _))
  have R1 : Hid (Arr w.heap.size w1 zc) := Lib.hid (hw1 ▸ Arr.new w zc _)
  obtain ⟨v4, s4, a4, g4⟩ := keep_msg R1.out rfl Chp.zero
  have H1 := Lib.hid (h.below HB.out)
  have HE := Lib.hid (rbehind rfl h.lt (h.below HB.out) (Chg.refl (One B) w1) HB.out g4)
  have HS := Lib.hid s4
  have c6 := Arr.cell H1.out 6 _ rfl
  have c0 := Arr.cell H1.out 0 _ rfl
  have c2 := Arr.cell H1.out 2 _ rfl
  have hlt := H1.out.lt
  have m0 := a4.cell 0 _ rfl
  have m1 := a4.cell 1 _ rfl
  have m2 := a4.cell 2 _ rfl
  have m3 := a4.cell 3 _ rfl
  have ec := empty_text p.challenge
  generalize ByteArray.mk p.challenge.toArray = E at *
  clear h s4 a4 g4 H1
  cases hs : E.toList.isEmpty
  · have hn2 := hn.resolve_left (fun k => by rw [ec, k] at hs; cases hs)
    clear hn ec
    cases hp : p.proved
    · rw [hp] at c0
      rw [hn2.resolve_left (fun k => by rw [hp] at k; cases k)] at c2
      clear hn2 hp
      go_enter Tryd.func15, Tryd.ntmps15
      go_upto_region 1 with (fail)
      rw [← hw1]
      clear hw1
      go_wp2_with (refine wpList_store rfl _ _ _ rfl ⟨w.heap.size, 0, none⟩ _ v4 rfl rfl HS.out ?_)
      exact bodyPost_ret (v := .tuple #[mv Chp.zero, .int .i64 1601]) (by simp [results, Tryd.results15, go_sem, m0, m1, m2, m3]) rfl ⟨rfl, HE.out⟩
    · rw [hp] at c0
      clear hn2 hp c2
      go_enter Tryd.func15, Tryd.ntmps15
      go_upto_region 1 with (fail)
      rw [← hw1]
      clear hw1
      go_wp2_with (refine wpList_store rfl _ _ _ rfl ⟨w.heap.size, 0, none⟩ _ v4 rfl rfl HS.out ?_)
      exact bodyPost_ret (v := .tuple #[mv Chp.zero, .int .i64 1601]) (by simp [results, Tryd.results15, go_sem, m0, m1, m2, m3]) rfl ⟨rfl, HE.out⟩
  · clear hn c0 c2 ec
    go_enter Tryd.func15, Tryd.ntmps15
    go_upto_region 1 with (fail)
    rw [← hw1]
    clear hw1
    go_wp2_with (refine wpList_store rfl _ _ _ rfl ⟨w.heap.size, 0, none⟩ _ v4 rfl rfl HS.out ?_)
    exact bodyPost_ret (v := .tuple #[mv Chp.zero, .int .i64 1601]) (by simp [results, Tryd.results15, go_sem, m0, m1, m2, m3]) rfl ⟨rfl, HE.out⟩
set_option maxHeartbeats 1600000 in
theorem ragain_over (B : Nat) (p : Pf) (w : World) (h : Rf B w p) (hn : p.challenge ≠ []) (hp : p.proved = false) (hq : p.failed = false) (hl : -1000 ≤ p.left ∧ p.left ≤ 1) :
    Calls Tryd.prog 15 #[.pointer (some ⟨B, 0, none⟩)] w (RMsgPost B w ({ p with left := p.left - 1, failed := true }, Chp.zero, 1601)) := by
  obtain ⟨w1, hw1⟩ : ∃ w1, w1 = w.alloc (.cells #[.int .i64 0, .int .i64 0, .string ⟨#[]⟩, .string ⟨#[]⟩] 33) := ⟨_, rfl⟩
  have HB : Hid (Below w.heap.size w w1) := Lib.hid (hw1 ▸ ((Below.refl w.heap.size w).alloc (Nat.le_refl _) _))
  have R1 : Hid (Arr w.heap.size w1 zc) := Lib.hid (hw1 ▸ Arr.new w zc _)
  have H1 := h.below HB.out
  have hB : B < w.heap.size := h.lt
  have hne : ¬ One B w.heap.size := fun e => by have := h.lt; omega
  obtain ⟨w2, hw2⟩ : ∃ w2, w2 = w1.setCell ⟨B, 7, none⟩ (.int .i64 (p.left - 1)) := ⟨_, rfl⟩
  have H2 : Rf B w2 { p with left := p.left - 1 } := hw2 ▸ H1.setLeft _
  obtain ⟨w3, hw3⟩ : ∃ w3, w3 = w2.setCell ⟨B, 2, none⟩ (.bool true) := ⟨_, rfl⟩
  have H3 : Rf B w3 { p with left := p.left - 1, failed := true } := hw3 ▸ H2.setFailed true
  have C3 : Chg (One B) w1 w3 := (hw2 ▸ one_cell w1 B 7 _ : Chg (One B) w1 w2).trans (hw3 ▸ one_cell w2 B 2 _)
  obtain ⟨v4, s4, a4, g4⟩ := keep_msg (R1.out.chg C3 hne) rfl Chp.zero
  have HE := Lib.hid (rbehind rfl hB H3 C3 HB.out g4)
  have HS := Lib.hid s4
  have m0 := a4.cell 0 _ rfl
  have m1 := a4.cell 1 _ rfl
  have m2 := a4.cell 2 _ rfl
  have m3 := a4.cell 3 _ rfl
  have c6 := Arr.cell H1 6 _ rfl
  have c0 := Arr.cell H1 0 _ rfl
  have c2 := Arr.cell H1 2 _ rfl
  have c7 := Arr.cell H1 7 _ rfl
  have f7 := Arr.frozen H1 7
  have k7 := Arr.cell H2 7 _ rfl
  have k2 := Arr.cell H2 2 _ rfl
  have fk2 := Arr.frozen H2 2
  rw [hp] at c0
  rw [hq] at c2 k2
  have hlt := H1.lt
  have hlt2 := H2.lt
  have ec := empty_text p.challenge
  generalize ByteArray.mk p.challenge.toArray = E at *
  have hs : E.toList.isEmpty = false := by
    rw [ec]
    cases hc : p.challenge with
    | nil => exact absurd hc hn
    | cons => rfl
  generalize p.left = z at *
  have q : wrap64 (z - 1) = z - 1 := IntWalk.wrap64_in _ ⟨by omega, by omega⟩
  have q2 : z - 1 ≤ 0 := by omega
  clear h hn hl H1 H2 H3 C3 s4 a4 g4 ec hp hq
  go_enter Tryd.func15, Tryd.ntmps15
  go_upto_region 1 with (fail)
  rw [← hw1]
  clear hw1
  go_upto_region 4 with (fail)
  rw [← hw2]
  clear hw2
  go_upto_region 6 with (fail)
  rw [← hw3]
  clear hw3
  go_wp2_with (refine wpList_store rfl _ _ _ rfl ⟨w.heap.size, 0, none⟩ _ v4 rfl rfl HS.out ?_)
  exact bodyPost_ret (v := .tuple #[mv Chp.zero, .int .i64 1601]) (by simp [results, Tryd.results15, go_sem, m0, m1, m2, m3]) rfl ⟨rfl, HE.out⟩
set_option maxHeartbeats 1600000 in
theorem ragain_more (B : Nat) (p : Pf) (w : World) (h : Rf B w p) (hn : p.challenge ≠ []) (hp : p.proved = false) (hq : p.failed = false) (hl : 2 ≤ p.left ∧ p.left ≤ 1000) :
    Calls Tryd.prog 15 #[.pointer (some ⟨B, 0, none⟩)] w (RMsgPost B w ({ p with left := p.left - 1 }, (1, 1, p.challenge, p.name), 0)) := by
  obtain ⟨w1, hw1⟩ : ∃ w1, w1 = w.alloc (.cells #[.int .i64 0, .int .i64 0, .string ⟨#[]⟩, .string ⟨#[]⟩] 33) := ⟨_, rfl⟩
  have HB : Hid (Below w.heap.size w w1) := Lib.hid (hw1 ▸ ((Below.refl w.heap.size w).alloc (Nat.le_refl _) _))
  have R1 : Hid (Arr w.heap.size w1 zc) := Lib.hid (hw1 ▸ Arr.new w zc _)
  have H1 := h.below HB.out
  have hB : Hid (B < w.heap.size) := Lib.hid h.lt
  have hne : ¬ One B w.heap.size := fun e => by have := h.lt; omega
  obtain ⟨w2, hw2⟩ : ∃ w2, w2 = w1.setCell ⟨B, 7, none⟩ (.int .i64 (p.left - 1)) := ⟨_, rfl⟩
  have H2 : Hid (Rf B w2 { p with left := p.left - 1 }) := Lib.hid (hw2 ▸ H1.setLeft _)
  have C2 : Hid (Chg (One B) w1 w2) := Lib.hid (hw2 ▸ one_cell w1 B 7 _)
  have R2 := Lib.hid (R1.out.chg C2.out hne)
  have AK := Lib.hid (rasks_any B { p with left := p.left - 1 } w2 H2.out)
  have c6 := Arr.cell H1 6 _ rfl
  have c0 := Arr.cell H1 0 _ rfl
  have c2 := Arr.cell H1 2 _ rfl
  have c7 := Arr.cell H1 7 _ rfl
  have f7 := Arr.frozen H1 7
  have k7 := Arr.cell H2.out 7 _ rfl
  rw [hp] at c0
  rw [hq] at c2
  have hlt := H1.lt
  have hlt2 := H2.out.lt
  have hs : (ByteArray.mk p.challenge.toArray).toList.isEmpty = false := by
    rw [empty_text]
    cases hc : p.challenge with
    | nil => exact absurd hc hn
    | cons => rfl
  obtain ⟨E, hE⟩ : ∃ E, E = ByteArray.mk p.challenge.toArray := ⟨_, rfl⟩
  rw [← hE] at c6 hs
  obtain ⟨z, hz⟩ : ∃ z, z = p.left := ⟨_, rfl⟩
  have q : wrap64 (p.left - 1) = p.left - 1 := IntWalk.wrap64_in _ ⟨by omega, by omega⟩
  have q2 : ¬ p.left - 1 ≤ 0 := by omega
  clear h hn hl H1 hE hz hp hq
  go_enter Tryd.func15, Tryd.ntmps15
  go_upto_region 1 with (fail)
  rw [← hw1]
  clear hw1
  go_upto_region 4 with (fail)
  rw [← hw2]
  clear hw2
  go_wp2_with (first
    | (go_at_call 31; (refine AK.out.mono ?_); rintro e v3 ⟨rfl, hb⟩; obtain ⟨v4, s4, a4, g4⟩ := keep_msg (R2.out.below hb) rfl (1, 1, p.challenge, p.name); have HS := Lib.hid s4; have HZ := Lib.hid a4; have HE := Lib.hid (rbehind rfl hB.out (H2.out.below hb) (chg_then C2.out hb) HB.out g4); clear hb s4 a4 g4)
    | (refine wpList_store rfl _ _ _ rfl ⟨w.heap.size, 0, none⟩ _ v4 rfl rfl HS.out ?_))
  have m0 := HZ.out.cell 0 _ rfl
  have m1 := HZ.out.cell 1 _ rfl
  have m2 := HZ.out.cell 2 _ rfl
  have m3 := HZ.out.cell 3 _ rfl
  exact bodyPost_ret (v := .tuple #[mv (1, 1, p.challenge, p.name), .int .i64 0]) (by simp [results, Tryd.results15, go_sem, m0, m1, m2, m3]) rfl ⟨rfl, HE.out⟩
/-- The contract of the document's Again. -/
theorem rAgain_any (B : Nat) (p : Pf) (w : World) (h : Rf B w p) (hf : p.Fit) :
    Calls Tryd.prog 15 #[.pointer (some ⟨B, 0, none⟩)] w (RMsgPost B w (Prf.again p)) := by
  have hl := hf.left
  unfold Prf.again
  by_cases h1 : p.challenge = [] ∨ p.proved = true ∨ p.failed = true
  · rw [if_pos h1]
    exact ragain_never B p w h h1
  · rw [if_neg h1]
    have k1 : p.challenge ≠ [] := fun k => h1 (.inl k)
    have k2 : p.proved = false := by
      cases hq : p.proved
      · rfl
      · exact absurd (.inr (.inl hq)) h1
    have k3 : p.failed = false := by
      cases hq : p.failed
      · rfl
      · exact absurd (.inr (.inr hq)) h1
    have hlo := hf.low k3
    by_cases h2 : p.left ≤ 1
    · rw [if_pos h2]
      exact ragain_over B p w h k1 k2 k3 ⟨by omega, h2⟩
    · rw [if_neg h2]
      exact ragain_more B p w h k1 k2 k3 ⟨by omega, by omega⟩
set_option maxHeartbeats 1600000 in
theorem rnew_good (n s x : List UInt8) (t : Int) (w : World) (hf : Prf.fine n s x t = true) :
    Calls Tryd.prog 9 #[.string ⟨n.toArray⟩, .string ⟨s.toArray⟩, .string ⟨x.toArray⟩, .int .i64 t] w
      fun e w' => ∃ B, e = .returned (.tuple #[.pointer (some ⟨B, 0, none⟩), .int .i64 0]) ∧ w.heap.size ≤ B ∧ Rf B w' (Prf.born n s x t) ∧ Below w.heap.size w w' := by
  obtain ⟨h1, h2, h3, h4, h5⟩ := Prf.fine_parts hf
  have l2 := (Prf.fits_len h2).2
  have l3 := (Prf.fits_len h3).2
  have MS := Lib.hid fun W => rsecret_any s W (by omega)
  have MX := Lib.hid fun W => rsecret_any x W (by omega)
  rw [h2] at MS
  rw [h3] at MX
  have q1 : ((ByteArray.mk n.toArray).size : Int) ≤ 32 := by rw [sz]; omega
  have NEW : Hid (∀ W : World, Rf W.heap.size (W.alloc (.cells #[.bool false, .bool false, .bool false, .string ⟨n.toArray⟩, .string ⟨s.toArray⟩, .string ⟨x.toArray⟩, .string ⟨#[]⟩, .int .i64 t] 50)) (Prf.born n s x t)) := Lib.hid fun W => Arr.new W (rcs (Prf.born n s x t)) _
  clear hf h1 h2 h3 l2 l3
  generalize ByteArray.mk n.toArray = N at *
  generalize ByteArray.mk s.toArray = S at *
  generalize ByteArray.mk x.toArray = X at *
  go_enter Tryd.func9, Tryd.ntmps9
  go_wp2_with (first
    | (go_at_call 26; (with_reducible refine (MS.out _).mono ?_); rintro e v1 ⟨rfl, rfl⟩)
    | (go_at_call 26; (with_reducible refine (MX.out _).mono ?_); rintro e v1 ⟨rfl, rfl⟩))
  go_ret2
  exact ⟨w.heap.size, rfl, Nat.le_refl _, NEW.out w, (Below.refl w.heap.size w).alloc (Nat.le_refl _) _⟩
set_option maxHeartbeats 1600000 in
theorem rnew_bad (n s x : List UInt8) (t : Int) (w : World) (hf : Prf.fine n s x t = false) (hn : n.length ≤ 4611686018427387904) (hs : s.length ≤ 4611686018427387904) (hx : x.length ≤ 4611686018427387904) :
    Calls Tryd.prog 9 #[.string ⟨n.toArray⟩, .string ⟨s.toArray⟩, .string ⟨x.toArray⟩, .int .i64 t] w
      fun e w' => e = .returned (.tuple #[.pointer none, .int .i64 1600]) ∧ w = w' := by
  have MS := Lib.hid fun W => rsecret_any s W hs
  have MX := Lib.hid fun W => rsecret_any x W hx
  have hf2 : 32 < n.length ∨ t < 1 ∨ 10 < t ∨ Prf.fits s = false ∨ Prf.fits x = false := by
    unfold Prf.fine at hf
    simp only [Bool.and_eq_false_iff, decide_eq_false_iff_not] at hf
    rcases hf with (((h | h) | h) | h) | h
    · exact .inl (by omega)
    · exact .inr (.inr (.inr (.inl h)))
    · exact .inr (.inr (.inr (.inr h)))
    · exact .inr (.inl (by omega))
    · exact .inr (.inr (.inl (by omega)))
  clear hf hs hx
  rw [← sz n] at hf2 hn
  generalize Prf.fits s = p at *
  generalize Prf.fits x = q at *
  generalize ByteArray.mk n.toArray = N at *
  generalize ByteArray.mk s.toArray = S at *
  generalize ByteArray.mk x.toArray = X at *
  have go : ∀ (_ : (p = false ∨ p = true ∧ q = false ∨ p = true ∧ q = true) ∧ (32 < (N.size : Int) ∨ (N.size : Int) ≤ 32 ∧ ((p && q) = false ∨ (p && q) = true ∧ (t < 1 ∨ 1 ≤ t ∧ 10 < t)))), Calls Tryd.prog 9 #[.string N, .string S, .string X, .int .i64 t] w
      fun e w' => e = .returned (.tuple #[.pointer none, .int .i64 1600]) ∧ w = w' := by
    clear hf2
    rintro ⟨rfl | ⟨rfl, rfl⟩ | ⟨rfl, rfl⟩, h1 | ⟨h1, h2 | ⟨h2, h3 | ⟨h3, h4⟩⟩⟩⟩
    all_goals try cases h2
    all_goals
      go_enter Tryd.func9, Tryd.ntmps9
      go_wp2_with (first
        | (go_at_call 26; (with_reducible refine (MS.out _).mono ?_); rintro e v1 ⟨rfl, rfl⟩)
        | (go_at_call 26; (with_reducible refine (MX.out _).mono ?_); rintro e v1 ⟨rfl, rfl⟩))
      go_ret2
      exact ⟨rfl, rfl⟩
  refine go ⟨?_, ?_⟩
  · cases p
    · exact .inl rfl
    · cases q
      · exact .inr (.inl ⟨rfl, rfl⟩)
      · exact .inr (.inr ⟨rfl, rfl⟩)
  · by_cases k1 : 32 < (N.size : Int)
    · exact .inl k1
    · refine .inr ⟨by omega, ?_⟩
      cases hpq : (p && q)
      · exact .inl rfl
      · refine .inr ⟨rfl, ?_⟩
        rw [Bool.and_eq_true] at hpq
        rcases hf2 with h | h | h | h | h
        · omega
        · exact .inl h
        · exact .inr ⟨by omega, h⟩
        · rw [hpq.1] at h; cases h
        · rw [hpq.2] at h; cases h
end Go.Proofs.YtaagfmnpeimakaaDoor.Cp
