/-
  Contract of the program's Put of a datagram.
-/
import Derived.Test.YtmonoicdejallaaZ2
import Derived.Test.YtmonoicdejallaaO2
import Derived.Test.YtmonoicdejallaaBox2
namespace Go.Proofs.Ytmonoicdejallaa.Z
open Go.RowKit
/-- The head of a request. -/
theorem run_embed (w : World) (c i : Int) : (Instr.field 54 (.agg #[.int .i64 c, .int .i64 i]) 0).run Try.prog w = .ok (.agg #[.int .i64 c, .int .i64 i]) w := by
  rfl
set_option maxHeartbeats 800000 in
theorem put_opts_walk (c i a k : Int) (v : Value) (t : List UInt8) (w : World) (hk : k ≠ 0)
    (P : Hid (∀ W, Below w.heap.size w W → Calls Try.prog 18 #[v] W fun e w' => e = .returned (.tuple #[.string ⟨t.toArray⟩, .int .i64 k]) ∧ Below W.heap.size W w')) :
    Calls Try.prog 8 #[.agg #[.int .i64 c, .int .i64 i, .int .i64 a, v]] w fun e w' => e = .returned (.tuple #[.string ⟨#[]⟩, .int .i64 900]) ∧ Below w.heap.size w w' := by
  have hq : (k != 0) = true := by simpa using hk
  clear hk
  have HB := Lib.hid ((Below.refl w.heap.size w).alloc (Nat.le_refl _) (.cells #[.int .i64 c, .int .i64 i, .int .i64 a, v] 24))
  go_enter Try.func8, Try.ntmps8
  go_wp2_with fail
  refine (P.out _ HB.out).mono ?_
  rintro e w2 ⟨rfl, hb2⟩
  have HB2 := Lib.hid (bel2 HB.out hb2)
  clear hb2
  go_wp2_with fail
  go_ret2
  exact ⟨rfl, HB2.out⟩
set_option maxHeartbeats 1600000 in
theorem put_resp_walk (c i a k : Int) (v : Value) (t U : List UInt8) (w : World)
    (P : Hid (∀ W, Below w.heap.size w W → Calls Try.prog 18 #[v] W fun e w' => e = .returned (.tuple #[.string ⟨t.toArray⟩, .int .i64 0]) ∧ Below W.heap.size W w'))
    (R : Hid (∀ W, Calls Try.prog 19 #[.agg #[.int .i64 c, .int .i64 i]] W fun e w' => e = .returned (.bool true) ∧ Below W.heap.size W w'))
    (L : Hid (∀ W, Calls Try.prog 20 #[.agg #[.int .i64 c, .int .i64 i, .int .i64 a], .string ⟨t.toArray⟩] W fun e w' => e = .returned (.tuple #[.string ⟨U.toArray⟩, .int .i64 k]) ∧ Below W.heap.size W w')) :
    Calls Try.prog 8 #[.agg #[.int .i64 c, .int .i64 i, .int .i64 a, v]] w fun e w' => e = .returned (.tuple #[.string ⟨U.toArray⟩, .int .i64 k]) ∧ Below w.heap.size w w' := by
  have HX := Lib.hid (Box.new w [.int .i64 c, .int .i64 i, .int .i64 a, v] 24)
  have HB := Lib.hid ((Below.refl w.heap.size w).alloc (Nat.le_refl _) (.cells #[.int .i64 c, .int .i64 i, .int .i64 a, v] 24))
  go_enter Try.func8, Try.ntmps8
  go_wp2_with fail
  refine (P.out _ HB.out).mono ?_
  rintro e w2 ⟨rfl, hb2⟩
  have HX2 := Lib.hid (HX.out.below hb2)
  have HB2 := Lib.hid (bel2 HB.out hb2)
  have HY2 := Lib.hid (Box.new w2 [.int .i64 c, .int .i64 i] 49)
  have k0 := HX2.out 0 _ rfl
  have k1 := HX2.out 1 _ rfl
  have k2 := HX2.out 2 _ rfl
  have hz := HX2.out.lt
  clear hb2
  go_wp2_with fail
  refine (R.out _).mono ?_
  rintro e w3 ⟨rfl, hb3⟩
  have HX3 := Lib.hid ((HX2.out.alloc (.cells #[.int .i64 c, .int .i64 i] 49)).below hb3)
  have HY3 := Lib.hid (HY2.out.below hb3)
  have HB3 := Lib.hid (bel2 (HB2.out.alloc HB2.out.size _) hb3)
  clear k0 k1 k2 hz hb3
  have k2 := HX3.out 2 _ rfl
  have m0 := HY3.out 0 _ rfl
  have m1 := HY3.out 1 _ rfl
  go_wp2_with fail
  refine (L.out _).mono ?_
  rintro e w4 ⟨rfl, hb4⟩
  have HB4 := Lib.hid (bel2 HB3.out hb4)
  clear hb4 k2 m0 m1
  go_wp2_with fail
  go_ret2
  exact ⟨rfl, HB4.out⟩
set_option maxHeartbeats 1600000 in
theorem put_req_bad (c i a : Int) (v : Value) (t : List UInt8) (w : World) (ha : a ≠ 0)
    (P : Hid (∀ W, Below w.heap.size w W → Calls Try.prog 18 #[v] W fun e w' => e = .returned (.tuple #[.string ⟨t.toArray⟩, .int .i64 0]) ∧ Below W.heap.size W w'))
    (R : Hid (∀ W, Calls Try.prog 19 #[.agg #[.int .i64 c, .int .i64 i]] W fun e w' => e = .returned (.bool false) ∧ Below W.heap.size W w')) :
    Calls Try.prog 8 #[.agg #[.int .i64 c, .int .i64 i, .int .i64 a, v]] w fun e w' => e = .returned (.tuple #[.string ⟨#[]⟩, .int .i64 900]) ∧ Below w.heap.size w w' := by
  have hq : (a != 0) = true := by simpa using ha
  clear ha
  have HX := Lib.hid (Box.new w [.int .i64 c, .int .i64 i, .int .i64 a, v] 24)
  have HB := Lib.hid ((Below.refl w.heap.size w).alloc (Nat.le_refl _) (.cells #[.int .i64 c, .int .i64 i, .int .i64 a, v] 24))
  go_enter Try.func8, Try.ntmps8
  go_wp2_with fail
  refine (P.out _ HB.out).mono ?_
  rintro e w2 ⟨rfl, hb2⟩
  have HX2 := Lib.hid (HX.out.below hb2)
  have HB2 := Lib.hid (bel2 HB.out hb2)
  have HY2 := Lib.hid (Box.new w2 [.int .i64 c, .int .i64 i] 49)
  have k0 := HX2.out 0 _ rfl
  have k1 := HX2.out 1 _ rfl
  have k2 := HX2.out 2 _ rfl
  have hz := HX2.out.lt
  clear hb2
  go_wp2_with fail
  refine (R.out _).mono ?_
  rintro e w3 ⟨rfl, hb3⟩
  have HX3 := Lib.hid ((HX2.out.alloc (.cells #[.int .i64 c, .int .i64 i] 49)).below hb3)
  have HB3 := Lib.hid (bel2 (HB2.out.alloc HB2.out.size _) hb3)
  clear k0 k1 k2 hz hb3
  have k2 := HX3.out 2 _ rfl
  go_wp2_with fail
  go_ret2
  exact ⟨rfl, HB3.out⟩
set_option maxHeartbeats 1600000 in
theorem put_req_walk (c i k : Int) (v : Value) (t U : List UInt8) (w : World)
    (P : Hid (∀ W, Below w.heap.size w W → Calls Try.prog 18 #[v] W fun e w' => e = .returned (.tuple #[.string ⟨t.toArray⟩, .int .i64 0]) ∧ Below W.heap.size W w'))
    (R : Hid (∀ W, Calls Try.prog 19 #[.agg #[.int .i64 c, .int .i64 i]] W fun e w' => e = .returned (.bool false) ∧ Below W.heap.size W w'))
    (L : Hid (∀ W, Calls Try.prog 21 #[.agg #[.int .i64 c, .int .i64 i], .string ⟨t.toArray⟩] W fun e w' => e = .returned (.tuple #[.string ⟨U.toArray⟩, .int .i64 k]) ∧ Below W.heap.size W w')) :
    Calls Try.prog 8 #[.agg #[.int .i64 c, .int .i64 i, .int .i64 0, v]] w fun e w' => e = .returned (.tuple #[.string ⟨U.toArray⟩, .int .i64 k]) ∧ Below w.heap.size w w' := by
  have HX := Lib.hid (Box.new w [.int .i64 c, .int .i64 i, .int .i64 0, v] 24)
  have HB := Lib.hid ((Below.refl w.heap.size w).alloc (Nat.le_refl _) (.cells #[.int .i64 c, .int .i64 i, .int .i64 0, v] 24))
  go_enter Try.func8, Try.ntmps8
  go_wp2_with fail
  refine (P.out _ HB.out).mono ?_
  rintro e w2 ⟨rfl, hb2⟩
  have HX2 := Lib.hid (HX.out.below hb2)
  have HB2 := Lib.hid (bel2 HB.out hb2)
  have HY2 := Lib.hid (Box.new w2 [.int .i64 c, .int .i64 i] 49)
  have k0 := HX2.out 0 _ rfl
  have k1 := HX2.out 1 _ rfl
  have k2 := HX2.out 2 _ rfl
  have hz := HX2.out.lt
  clear hb2
  go_wp2_with fail
  refine (R.out _).mono ?_
  rintro e w3 ⟨rfl, hb3⟩
  have HX3 := Lib.hid ((HX2.out.alloc (.cells #[.int .i64 c, .int .i64 i] 49)).below hb3)
  have HY3 := Lib.hid (HY2.out.below hb3)
  have HB3 := Lib.hid (bel2 (HB2.out.alloc HB2.out.size _) hb3)
  clear k0 k1 k2 hz hb3
  have k2 := HX3.out 2 _ rfl
  have m0 := HY3.out 0 _ rfl
  have m1 := HY3.out 1 _ rfl
  have fe := fun w => run_embed w c i
  go_wp2_with fail
  refine (L.out _).mono ?_
  rintro e w4 ⟨rfl, hb4⟩
  have HB4 := Lib.hid (bel2 HB3.out hb4)
  clear hb4 k2 m0 m1
  go_wp2_with fail
  go_ret2
  exact ⟨rfl, HB4.out⟩
theorem opt_put_len (os : List Opt.Op) (h : Opt.code os = 0) : Opt.put os = Opt.wires os ∧ (Opt.wires os).length ≤ 2048 := by
  refine ⟨if_pos h, ?_⟩
  rcases Opt.code_ways os with ⟨_, e⟩ | ⟨_, _, e⟩ | ⟨_, e, _⟩
  · omega
  · omega
  · exact (Opt.fits_short os e).2
/-- Laid is put. -/
theorem laid_put (c i a : Int) (os : List Opt.Op) (ho : Opt.code os = 0) (hf : Bap.fit c a = true) : laid c i (Bap.rest (c, i, a, os)) = (Bap.put (c, i, a, os), Bap.code (c, i, a, os)) := by
  unfold laid
  rcases Bap.code_ways c i a os with ⟨h, e⟩ | ⟨h1, _, _, h4, e⟩ | ⟨h1, _, _, h4, e⟩
  · have hg : Bap.gd c i = false := by
      rcases h with h | h | h
      · exact h
      · rw [hf] at h; cases h
      · exact absurd ho h
    rw [if_neg (by rw [hg]; simp), Bap.put_bad _ (by omega), e]
  · rw [if_pos h1, if_neg (by omega), Bap.put_bad _ (by omega), e]
  · rw [if_pos h1, if_pos h4, Bap.put_good _ e, e]
    rfl
theorem code_no (c i a : Int) (os : List Opt.Op) (h : Bap.fit c a = false ∨ Opt.code os ≠ 0) : Bap.put (c, i, a, os) = [] ∧ Bap.code (c, i, a, os) = 900 := by
  have e : Bap.code (c, i, a, os) = 900 := by
    unfold Bap.code
    exact if_neg fun g => by
      rcases h with h | h
      · rw [g.2.1] at h; cases h
      · exact h g.2.2
  exact ⟨Bap.put_bad _ (by omega), e⟩
/-- The contract of Put. -/
theorem bput_any (c i a : Int) (v : Value) (os : List Opt.Op) (w : World) (hr : ReadsO w v os) (hl : os.length ≤ 4611686018427387904) :
    Calls Try.prog 8 #[.agg #[.int .i64 c, .int .i64 i, .int .i64 a, v]] w fun e w' => e = .returned (.tuple #[.string ⟨(Bap.put (c, i, a, os)).toArray⟩, .int .i64 (Bap.code (c, i, a, os))]) ∧ Below w.heap.size w w' := by
  have P : ∀ W, Below w.heap.size w W → _ := fun W hb => O.oput_any v os W (hr.below hb) hl
  have R := fun W => isResp_any c i W
  by_cases ho : Opt.code os = 0
  · obtain ⟨g1, g2⟩ := opt_put_len os ho
    rw [ho, g1] at P
    cases hc : Bap.resp c
    · rw [hc] at R
      by_cases ha : a = 0
      · subst ha
        have e := laid_put c i 0 os ho (by rw [Bap.fit_req c 0 hc]; rfl)
        unfold Bap.rest at e
        dsimp only at e
        rw [Bap.lead_req c 0 hc, List.nil_append] at e
        have L := fun W => lay_any c i (Opt.wires os) W (by omega)
        rw [e] at L
        exact put_req_walk c i _ v _ _ w (Lib.hid P) (Lib.hid R) (Lib.hid L)
      · obtain ⟨e1, e2⟩ := code_no c i a os (.inl (by rw [Bap.fit_req c a hc]; simpa using ha))
        rw [e1, e2]
        exact put_req_bad c i a v _ w ha (Lib.hid P) (Lib.hid R)
    · rw [hc] at R
      have L := fun W => rput_any c i a (Opt.wires os) W g2
      unfold rlaid at L
      by_cases hb : Ctl.byte a = true
      · have e := laid_put c i a os ho (by rw [Bap.fit_resp c a hc]; exact hb)
        unfold Bap.rest at e
        dsimp only at e
        rw [Bap.lead_resp c a hc, List.singleton_append] at e
        rw [if_pos hb, e] at L
        exact put_resp_walk c i a _ v _ _ w (Lib.hid P) (Lib.hid R) (Lib.hid L)
      · obtain ⟨e1, e2⟩ := code_no c i a os (.inl (by rw [Bap.fit_resp c a hc]; simpa using hb))
        rw [if_neg hb] at L
        rw [e1, e2]
        exact put_resp_walk c i a _ v _ _ w (Lib.hid P) (Lib.hid R) (Lib.hid L)
  · obtain ⟨e1, e2⟩ := code_no c i a os (.inr ho)
    rw [e1, e2]
    exact put_opts_walk c i a _ v _ w ho (Lib.hid P)
end Go.Proofs.Ytmonoicdejallaa.Z
