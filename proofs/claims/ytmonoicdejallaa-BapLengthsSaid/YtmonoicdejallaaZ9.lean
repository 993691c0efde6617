/-
  Contract of the document's own Unbap, whole; two datagrams of one content are the same; what every program of stage 9 answers that is one.
-/
import Derived.Test.YtmonoicdejallaaZ3
import Derived.Test.YtmonoicdejallaaZ8
import Derived.Test.YtmonoicdejallaaLaterO
import Derived.Test.YtmonoicdejallaaNum
namespace Go.Proofs.Ytmonoicdejallaa.Z
open Go.RowKit
theorem gd_byte (x y : UInt8) : Bap.gd (x.toNat : Int) (y.toNat : Int) = true ↔ 1 ≤ x.toNat ∧ x.toNat ≤ 8 := by
  have := y.toNat_lt
  rw [Bap.gd_iff]
  omega
theorem behind (l : List UInt8) (k : Nat) (h : 5 ≤ k) (h2 : k ≤ l.length) : (l.take k).drop 4 = l[4]'(by omega) :: (l.take k).drop 5 := by
  have h3 : 4 < (l.take k).length := by rw [List.length_take]; omega
  rw [List.drop_eq_getElem_cons h3, List.getElem_take]
/-- The contract of the document's own Unbap. -/
theorem unbap_any (l : List UInt8) (w : World) (hm : l.length ≤ 9223372036854775807) : Calls Try.prog 11 #[.string ⟨l.toArray⟩] w (BpPost (Bap.get l) w) := by
  have hs := sz l
  have zero : ∀ (k : Int), Calls Try.prog 11 #[.string ⟨l.toArray⟩] w (fun e w' => e = .returned (.tuple #[.agg #[.int .i64 0, .int .i64 0, .int .i64 0, .slice none 0 0], .int .i64 k]) ∧ Below w.heap.size w w') → Calls Try.prog 11 #[.string ⟨l.toArray⟩] w (BpPost (Bap.zero, k) w) := fun k h => by
    refine h.mono ?_
    rintro e w' ⟨rfl, hb⟩
    exact ⟨_, rfl, World.ownsRow_nil _ _ _ _, hb⟩
  by_cases h : l.length < 4
  · rw [Bap.get_short l h]
    exact zero _ (un_short ⟨l.toArray⟩ w (by rw [hs]; exact h))
  · have h4 : 4 ≤ l.length := by omega
    have g4 : 4 ≤ (ByteArray.mk l.toArray).size := by rw [hs]; exact h4
    have gm : (ByteArray.mk l.toArray).size ≤ 9223372036854775807 := by rw [hs]; exact hm
    have hgd := gd_byte (l[0]'(by omega)) (l[1]'(by omega))
    by_cases c1 : (l[0]'(by omega)).toNat < 1
    · rw [Bap.get_wrong l h4 (.inr (.inr (Bool.eq_false_iff.2 fun e => by have := hgd.1 e; omega)))]
      exact zero _ (un_low ⟨l.toArray⟩ (l[0]'(by omega)) w g4 gm rfl c1)
    · by_cases c2 : 8 < (l[0]'(by omega)).toNat
      · rw [Bap.get_wrong l h4 (.inr (.inr (Bool.eq_false_iff.2 fun e => by have := hgd.1 e; omega)))]
        exact zero _ (un_high ⟨l.toArray⟩ (l[0]'(by omega)) w g4 gm rfl c2)
      · have hg := hgd.2 ⟨by omega, by omega⟩
        by_cases k4 : Ctl.size l h4 < 4
        · rw [Bap.get_wrong l h4 (.inl k4)]
          exact zero _ (un_k4 ⟨l.toArray⟩ (l[0]'(by omega)) (Ctl.size l h4) w g4 gm rfl rfl (by omega) (by omega) k4)
        · cases hr : Bap.resp ((l[0]'(by omega)).toNat : Int)
          · by_cases kf : l.length < Ctl.size l h4
            · rw [Bap.get_wrong l h4 (.inr (.inl kf))]
              exact zero _ (un_far0 ⟨l.toArray⟩ (l[0]'(by omega)) (Ctl.size l h4) w g4 gm rfl rfl (by omega) (by omega) hr (by omega) (by rw [hs]; exact kf))
            · by_cases kl : 2048 < Ctl.size l h4
              · rw [Bap.get_long l h4 (by omega) (by omega) hg kl]
                exact zero _ (un_long0 ⟨l.toArray⟩ (l[0]'(by omega)) (Ctl.size l h4) w g4 gm rfl rfl (by omega) (by omega) hr (by rw [hs]; omega) kl)
              · rw [Bap.get_body l h4 (by omega) (by omega) hg (by omega), Bap.body_req _ _ _ hr]
                have hDl : ((l.take (Ctl.size l h4)).drop 4).length ≤ 2048 := by rw [List.length_drop, List.length_take]; omega
                have G := fun W => O.runopts_any ((l.take (Ctl.size l h4)).drop 4) W (by omega)
                unfold O.GetPost at G
                by_cases ho : (Opt.get ((l.take (Ctl.size l h4)).drop 4)).2 = 0
                · rw [Bap.held_good _ _ _ _ ho]
                  rw [ho] at G
                  exact un_good0 ⟨l.toArray⟩ ⟨((l.take (Ctl.size l h4)).drop 4).toArray⟩ (l[0]'(by omega)) (l[1]'(by omega)) (Ctl.size l h4) _ w g4 gm rfl rfl (by omega) (by omega) rfl hr (by rw [hs]; omega) (by omega) (by omega) (cut_list l _ _) (Lib.hid G)
                · rw [Bap.held_bad _ _ _ _ ho]
                  exact zero _ (un_bad0 ⟨l.toArray⟩ ⟨((l.take (Ctl.size l h4)).drop 4).toArray⟩ (l[0]'(by omega)) (l[1]'(by omega)) (Ctl.size l h4) _ _ w g4 gm rfl rfl (by omega) (by omega) rfl hr (by rw [hs]; omega) (by omega) (by omega) (cut_list l _ _) ho (Lib.hid G))
          · by_cases k5 : Ctl.size l h4 < 5
            · rw [Bap.get_body l h4 (by omega) (by omega) hg (by omega)]
              have hD : (l.take (Ctl.size l h4)).drop 4 = [] := List.drop_eq_nil_of_le (by rw [List.length_take]; omega)
              rw [hD, Bap.body_none _ _ hr]
              exact zero _ (un_k5 ⟨l.toArray⟩ (l[0]'(by omega)) (Ctl.size l h4) w g4 gm rfl rfl (by omega) (by omega) hr (by omega) k5)
            · by_cases kf : l.length < Ctl.size l h4
              · rw [Bap.get_wrong l h4 (.inr (.inl kf))]
                exact zero _ (un_far1 ⟨l.toArray⟩ (l[0]'(by omega)) (Ctl.size l h4) w g4 gm rfl rfl (by omega) (by omega) hr (by omega) (by rw [hs]; exact kf))
              · by_cases kl : 2048 < Ctl.size l h4
                · rw [Bap.get_long l h4 (by omega) (by omega) hg kl]
                  exact zero _ (un_long1 ⟨l.toArray⟩ (l[0]'(by omega)) (l[4]'(by omega)) (Ctl.size l h4) w g4 gm rfl rfl (by omega) (by omega) hr (by rw [hs]; omega) kl rfl)
                · rw [Bap.get_body l h4 (by omega) (by omega) hg (by omega), behind l _ (by omega) (by omega), Bap.body_resp _ _ _ _ hr]
                  have hDl : ((l.take (Ctl.size l h4)).drop 5).length ≤ 2048 := by rw [List.length_drop, List.length_take]; omega
                  have G := fun W => O.runopts_any ((l.take (Ctl.size l h4)).drop 5) W (by omega)
                  unfold O.GetPost at G
                  by_cases ho : (Opt.get ((l.take (Ctl.size l h4)).drop 5)).2 = 0
                  · rw [Bap.held_good _ _ _ _ ho]
                    rw [ho] at G
                    exact un_good1 ⟨l.toArray⟩ ⟨((l.take (Ctl.size l h4)).drop 5).toArray⟩ (l[0]'(by omega)) (l[1]'(by omega)) (l[4]'(by omega)) (Ctl.size l h4) _ w g4 gm rfl rfl (by omega) (by omega) rfl hr (by rw [hs]; omega) (by omega) (by omega) rfl (cut_list l _ _) (Lib.hid G)
                  · rw [Bap.held_bad _ _ _ _ ho]
                    exact zero _ (un_bad1 ⟨l.toArray⟩ ⟨((l.take (Ctl.size l h4)).drop 5).toArray⟩ (l[0]'(by omega)) (l[1]'(by omega)) (l[4]'(by omega)) (Ctl.size l h4) _ _ w g4 gm rfl rfl (by omega) (by omega) rfl hr (by rw [hs]; omega) (by omega) (by omega) rfl (cut_list l _ _) ho (Lib.hid G))
set_option maxHeartbeats 800000 in
theorem sameb_any (c i a : Int) (va vb : Value) (os : List Opt.Op) (W : World) (ha : ReadsO W va os) (hb : ReadsO W vb os) (hl : os.length ≤ 4611686018427387904) :
    Calls Try.prog 13 #[.agg #[.int .i64 c, .int .i64 i, .int .i64 a, va], .agg #[.int .i64 c, .int .i64 i, .int .i64 a, vb]] W fun e w' => e = .returned (.bool true) ∧ Below W.heap.size W w' := by
  have HB := Lib.hid (((Below.refl W.heap.size W).alloc (Nat.le_refl _) (.cells #[.int .i64 c, .int .i64 i, .int .i64 a, va] 24)).alloc (by simp) (.cells #[.int .i64 c, .int .i64 i, .int .i64 a, vb] 24))
  have S := Lib.hid (O.same_yes va vb os _ (ha.below HB.out) (hb.below HB.out) hl)
  have q1 : (c == c) = true := by simp
  have q2 : (i == i) = true := by simp
  have q3 : (a == a) = true := by simp
  clear ha hb
  go_enter Try.func13, Try.ntmps13
  go_wp2_with (refine S.out.mono ?_; rintro e w1 ⟨rfl, hb1⟩; have HB1 := Lib.hid (bel2 HB.out hb1); clear hb1)
  go_ret
  exact ⟨rfl, HB1.out⟩
theorem awake1 : Bap.code (2, 4, 1, [(1, [122])]) = 0 := by decide +kernel
theorem awake2 : Bap.put (2, 4, 1, [(1, [122])]) = [2, 4, 0, 8, 1, 1, 3, 122] := by decide +kernel
theorem awake3 : Bap.get [2, 4, 0, 8, 1, 1, 3, 122] = ((2, 4, 1, [(1, [122])]), 0) := by
  have h := Bap.get_wire (2, 4, 1, [(1, [122])]) [] awake1
  rwa [List.append_nil, ← Bap.put_good _ awake1, awake2] at h
theorem awake4 : Bap.get [9, 0, 0, 4] = (Bap.zero, 900) := Bap.get_wrong [9, 0, 0, 4] (by decide) (.inr (.inr (by decide)))
theorem awake5 : Bap.code (1, 0, 1, []) = 900 := by decide +kernel
theorem awake6 : Bap.put (1, 0, 1, []) = [] := by decide +kernel
set_option maxHeartbeats 1600000 in
theorem awake_any (w : World) : Calls Try.prog 16 #[] w fun e w' => e = .returned (.bool true) ∧ Below w.heap.size w w' := by
  have P1 : Hid (∀ W v, ReadsO W v [(1, [122])] → Calls Try.prog 8 #[.agg #[.int .i64 2, .int .i64 4, .int .i64 1, v]] W fun e w' => e = .returned (.tuple #[.string ⟨#[2, 4, 0, 8, 1, 1, 3, 122]⟩, .int .i64 0]) ∧ Below W.heap.size W w') := Lib.hid fun W v hr => by
    have h := bput_any 2 4 1 v [(1, [122])] W hr (by decide)
    rwa [awake1, awake2] at h
  have P2 : Hid (∀ W, Calls Try.prog 8 #[.agg #[.int .i64 1, .int .i64 0, .int .i64 1, .slice none 0 0]] W fun e w' => e = .returned (.tuple #[.string ⟨#[]⟩, .int .i64 900]) ∧ Below W.heap.size W w') := Lib.hid fun W => by
    have h := bput_any 1 0 1 _ [] W (reads_nil W) (by decide)
    rwa [awake5, awake6] at h
  have G1 : Hid (∀ W, Calls Try.prog 10 #[.string ⟨#[2, 4, 0, 8, 1, 1, 3, 122]⟩] W (BpPost ((2, 4, 1, [(1, [122])]), 0) W)) := Lib.hid fun W => by
    have h := bget_any [2, 4, 0, 8, 1, 1, 3, 122] W (by decide)
    rwa [awake3] at h
  have G2 : Hid (∀ W, Calls Try.prog 10 #[.string ⟨#[9, 0, 0, 4]⟩] W (BpPost (Bap.zero, 900) W)) := Lib.hid fun W => by
    have h := bget_any [9, 0, 0, 4] W (by decide)
    rwa [awake4] at h
  have S : Hid (∀ W va vb, ReadsO W va [(1, [122])] → ReadsO W vb [(1, [122])] → Calls Try.prog 13 #[.agg #[.int .i64 2, .int .i64 4, .int .i64 1, va], .agg #[.int .i64 2, .int .i64 4, .int .i64 1, vb]] W fun e w' => e = .returned (.bool true) ∧ Below W.heap.size W w') := Lib.hid fun W va vb ha hb => sameb_any 2 4 1 va vb _ W ha hb (by decide)
  have R0 := Lib.hid ((reads_lit w [(1, [122])] #[.int .i64 1, .string ⟨#[122]⟩] rfl).below ((Below.refl _ _).alloc (Nat.le_refl _) (.cells #[.int .i64 2, .int .i64 4, .int .i64 1, .slice (some ⟨w.heap.size, 0, none⟩) 1 1] 24)))
  have X0 := Lib.hid ((Box.new (w.alloc (.cells #[.int .i64 1, .string ⟨#[122]⟩] 46)) [.int .i64 2, .int .i64 4, .int .i64 1, .slice (some ⟨w.heap.size, 0, none⟩) 1 1] 24).at (n := w.heap.size + 1) (by simp))
  have B0 := Lib.hid (((Below.refl w.heap.size w).alloc (Nat.le_refl _) (.cells #[.int .i64 1, .string ⟨#[122]⟩] 46)).alloc (by simp) (.cells #[.int .i64 2, .int .i64 4, .int .i64 1, .slice (some ⟨w.heap.size, 0, none⟩) 1 1] 24))
  go_enter Try.func16, Try.ntmps16
  go_wp2_with fail
  refine (P1.out _ _ R0.out).mono ?_
  rintro e w1 ⟨rfl, hb1⟩
  have R1 := Lib.hid (R0.out.below hb1)
  have X1 := Lib.hid (X0.out.below hb1)
  have B1 := Lib.hid (bel2 B0.out hb1)
  clear hb1
  go_wp2_with fail
  refine (G1.out _).mono ?_
  rintro e w2 ⟨v2, rfl, ho2⟩
  obtain ⟨p2, cap2, rfl⟩ := ho2.form2
  have A2 := (Below.refl w2.heap.size w2).alloc (Nat.le_refl _) (.cells #[.int .i64 2, .int .i64 4, .int .i64 1, .slice p2 1 cap2] 24)
  have B2 := Lib.hid (bel2 (bel2 B1.out ho2.2) A2)
  have R2 := Lib.hid ((R1.out.below ho2.2).below A2)
  have X2 := Lib.hid ((X1.out.below ho2.2).below A2)
  have Q2 := Lib.hid (ho2.reads.below A2)
  have Y2 := Lib.hid (Box.new w2 [.int .i64 2, .int .i64 4, .int .i64 1, .slice p2 1 cap2] 24)
  clear ho2 A2
  go_wp2_with fail
  refine (G2.out _).mono ?_
  rintro e w3 ⟨v3, rfl, ho3⟩
  obtain ⟨p3, cap3, rfl⟩ := ho3.form2
  have A3 := bel2 ho3.2 ((Below.refl w3.heap.size w3).alloc (Nat.le_refl _) (.cells #[.int .i64 0, .int .i64 0, .int .i64 0, .slice p3 0 cap3] 24))
  have B3 := Lib.hid (bel2 B2.out A3)
  have R3 := Lib.hid (R2.out.below A3)
  have Q3 := Lib.hid (Q2.out.below A3)
  have X3 := Lib.hid (X2.out.below A3)
  have Y3 := Lib.hid (Y2.out.below A3)
  clear ho3 A3
  go_wp2_with fail
  refine (P2.out _).mono ?_
  rintro e w4 ⟨rfl, hb4⟩
  have B4 := Lib.hid (bel2 B3.out hb4)
  have R4 := Lib.hid (R3.out.below hb4)
  have Q4 := Lib.hid (Q3.out.below hb4)
  have X4 := X3.out.below hb4
  have Y4 := Y3.out.below hb4
  have k0 := X4 0 _ rfl
  have k1 := X4 1 _ rfl
  have k2 := X4 2 _ rfl
  have k3 := X4 3 _ rfl
  have m0 := Y4 0 _ rfl
  have m1 := Y4 1 _ rfl
  have m2 := Y4 2 _ rfl
  have m3 := Y4 3 _ rfl
  clear hb4 X4 Y4
  go_wp2_with (first | (go_at_call 12; refine (num_any _ _).mono ?_; rintro e w9 ⟨rfl, rfl⟩) | (refine (S.out _ _ _ Q4.out R4.out).mono ?_; rintro e w5 ⟨rfl, hb5⟩; have B5 := Lib.hid (bel2 B4.out hb5); clear hb5))
  go_ret
  exact ⟨rfl, B5.out⟩
end Go.Proofs.Ytmonoicdejallaa.Z
