/-
  Contract of the program's Get of a datagram.
-/
import Derived.Test.YtmonoicdejallaaZ5
import Derived.Deep.RegionWith
import Derived.Deep.RegionHeld
namespace Go.Proofs.Ytmonoicdejallaa.Z
open Go.RowKit
/-- The head of a request. -/
theorem run_embed4 (w : World) (c i : Int) : (Instr.field 54 (.agg #[.int .i64 c, .int .i64 i]) 0).run Try.prog w = .ok (.agg #[.int .i64 c, .int .i64 i]) w := by
  rfl
set_option maxHeartbeats 1600000 in
theorem get_cut_bad (s D : ByteArray) (x y k : Int) (w : World) (hk : (k != 0) = true)
    (C : Hid (∀ W, Calls Try.prog 24 #[.string s] W (CutPost x y D k W))) :
    Calls Try.prog 10 #[.string s] w fun e w' => e = .returned (.tuple #[.agg #[.int .i64 0, .int .i64 0, .int .i64 0, .slice none 0 0], .int .i64 k]) ∧ Below w.heap.size w w' := by
  have X1 := Lib.hid (Box.new w [.int .i64 0, .int .i64 0, .int .i64 0, .slice none 0 0] 24)
  have HB := Lib.hid ((Below.refl w.heap.size w).alloc (Nat.le_refl _) (.cells #[.int .i64 0, .int .i64 0, .int .i64 0, .slice none 0 0] 24))
  go_enter Try.func10, Try.ntmps10
  go_wp2_with fail
  refine (C.out _).mono ?_
  rintro e w4 ⟨rfl, hb4⟩
  have hz4 : w.heap.size < w4.heap.size := (by have := hb4.size; simp at this; omega)
  have k4 := (Below.refl w4.heap.size w4).alloc (Nat.le_refl _) (.cells #[.int .i64 x, .int .i64 y] 49)
  have Y1 := (X1.out.below hb4).below k4
  have fz : ∀ o, (w4.alloc (.cells #[.int .i64 x, .int .i64 y] 49)).frozen? ⟨w.heap.size, o, none⟩ = false := fun o => ((bcell k4).2 _ _ hz4).trans (((bcell hb4).2 _ _ (by simp)).trans (by simp [go_sem]))
  have H4 := bel2 (bel2 HB.out hb4) k4
  go_upto_region 2 with (fail)
  generalize w4.alloc (.cells #[.int .i64 x, .int .i64 y] 49) = w5 at *
  generalize w4.heap.size = N at *
  have HB4 := Lib.hid H4
  have m0 := Y1 0 _ rfl
  have m1 := Y1 1 _ rfl
  have m2 := Y1 2 _ rfl
  have m3 := Y1 3 _ rfl
  clear Y1 hb4 k4 H4
  go_wp2_with fail
  refine bodyPost_ret (v := .tuple #[.agg #[.int .i64 0, .int .i64 0, .int .i64 0, .slice none 0 0], .int .i64 k]) (by simp [results, Try.results10, go_sem, m0, m1, m2, m3]) rfl ⟨rfl, ?_⟩
  repeat (first | (with_reducible exact HB4.out) | (refine Below.setCell ?_ ?_ _; rotate_left; exact Nat.le_refl _))
set_option maxHeartbeats 1600000 in
theorem get_req (s D : ByteArray) (x y : Int) (r : Bap.Bp × Int) (w : World)
    (C : Hid (∀ W, Calls Try.prog 24 #[.string s] W (CutPost x y D 0 W)))
    (R : Hid (∀ W, Calls Try.prog 19 #[.agg #[.int .i64 x, .int .i64 y]] W fun e w' => e = .returned (.bool false) ∧ Below W.heap.size W w'))
    (K : Hid (∀ W, Calls Try.prog 25 #[.agg #[.int .i64 x, .int .i64 y], .string D] W (BpPost r W))) :
    Calls Try.prog 10 #[.string s] w (BpPost r w) := by
  have X1 := Lib.hid (Box.new w [.int .i64 0, .int .i64 0, .int .i64 0, .slice none 0 0] 24)
  have HB := Lib.hid ((Below.refl w.heap.size w).alloc (Nat.le_refl _) (.cells #[.int .i64 0, .int .i64 0, .int .i64 0, .slice none 0 0] 24))
  have fe := fun w => run_embed4 w x y
  go_enter Try.func10, Try.ntmps10
  go_wp2_with fail
  refine (C.out _).mono ?_
  rintro e w4 ⟨rfl, hb4⟩
  have hz4 : w.heap.size < w4.heap.size := (by have := hb4.size; simp at this; omega)
  have k4 := (Below.refl w4.heap.size w4).alloc (Nat.le_refl _) (.cells #[.int .i64 x, .int .i64 y] 49)
  have Y4 := Lib.hid ((X1.out.below hb4).below k4)
  have Z4 := Lib.hid (Box.new w4 [.int .i64 x, .int .i64 y] 49)
  have F4 : Hid (∀ o, (w4.alloc (.cells #[.int .i64 x, .int .i64 y] 49)).frozen? ⟨w.heap.size, o, none⟩ = false) := Lib.hid fun o => ((bcell k4).2 _ _ hz4).trans (((bcell hb4).2 _ _ (by simp)).trans (by simp [go_sem]))
  have H4 := Lib.hid (bel2 (bel2 HB.out hb4) k4)
  have W4 := Lib.hid k4
  clear hb4 k4
  go_wp2_with fail
  refine (R.out _).mono ?_
  rintro e w5 ⟨rfl, hb5⟩
  have Y5 := Lib.hid (Y4.out.below hb5)
  have Z5 := Lib.hid (Z4.out.below hb5)
  have hz5 : w.heap.size < w5.heap.size := Y5.out.lt
  have hz6 := Z5.out.lt
  have F5 : Hid (∀ o, w5.frozen? ⟨w.heap.size, o, none⟩ = false) := Lib.hid fun o => ((bcell hb5).2 _ _ (by simp; omega)).trans (F4.out o)
  have H5 := Lib.hid (bel2 H4.out hb5)
  have n0 := Z5.out 0 _ rfl
  have n1 := Z5.out 1 _ rfl
  clear hb5
  go_wp2_with fail
  refine (K.out _).mono ?_
  rintro e w6 ⟨v, rfl, ho⟩
  obtain ⟨p, cap, rfl⟩ := ho.form2
  have Y6 := Y5.out.below ho.2
  have m0 := Y6 0 _ rfl
  have m1 := Y6 1 _ rfl
  have m2 := Y6 2 _ rfl
  have m3 := Y6 3 _ rfl
  have fz : ∀ o, w6.frozen? ⟨w.heap.size, o, none⟩ = false := fun o => ((bcell ho.2).2 _ _ hz5).trans (F5.out o)
  have A1 := Lib.hid (ho.above hz5)
  have HO := Lib.hid (ho.base H5.out)
  clear Y6 ho
  go_wp2_with fail
  refine bodyPost_ret (v := .tuple #[.agg #[.int .i64 r.1.1, .int .i64 r.1.2.1, .int .i64 r.1.2.2.1, .slice p r.1.2.2.2.length cap], .int .i64 r.2]) (by simp [results, Try.results10, go_sem, m0, m1, m2, m3]) rfl ⟨_, rfl, ?_⟩
  repeat (first | (with_reducible exact HO.out) | (refine OwnsO.setCell ?_ ?_ ?_ _; rotate_left; exact Nat.le_refl _; exact A1.out))
set_option maxHeartbeats 1600000 in
theorem get_none (s : ByteArray) (x y : Int) (w : World)
    (C : Hid (∀ W, Calls Try.prog 24 #[.string s] W (CutPost x y ⟨#[]⟩ 0 W)))
    (R : Hid (∀ W, Calls Try.prog 19 #[.agg #[.int .i64 x, .int .i64 y]] W fun e w' => e = .returned (.bool true) ∧ Below W.heap.size W w')) :
    Calls Try.prog 10 #[.string s] w fun e w' => e = .returned (.tuple #[.agg #[.int .i64 0, .int .i64 0, .int .i64 0, .slice none 0 0], .int .i64 900]) ∧ Below w.heap.size w w' := by
  have X1 := Lib.hid (Box.new w [.int .i64 0, .int .i64 0, .int .i64 0, .slice none 0 0] 24)
  have HB := Lib.hid ((Below.refl w.heap.size w).alloc (Nat.le_refl _) (.cells #[.int .i64 0, .int .i64 0, .int .i64 0, .slice none 0 0] 24))
  have fe := fun w => run_embed4 w x y
  go_enter Try.func10, Try.ntmps10
  go_wp2_with fail
  refine (C.out _).mono ?_
  rintro e w4 ⟨rfl, hb4⟩
  have hz4 : w.heap.size < w4.heap.size := (by have := hb4.size; simp at this; omega)
  have k4 := (Below.refl w4.heap.size w4).alloc (Nat.le_refl _) (.cells #[.int .i64 x, .int .i64 y] 49)
  have Y4 := Lib.hid ((X1.out.below hb4).below k4)
  have Z4 := Lib.hid (Box.new w4 [.int .i64 x, .int .i64 y] 49)
  have F4 : Hid (∀ o, (w4.alloc (.cells #[.int .i64 x, .int .i64 y] 49)).frozen? ⟨w.heap.size, o, none⟩ = false) := Lib.hid fun o => ((bcell k4).2 _ _ hz4).trans (((bcell hb4).2 _ _ (by simp)).trans (by simp [go_sem]))
  have H4 := Lib.hid (bel2 (bel2 HB.out hb4) k4)
  have W4 := Lib.hid k4
  clear hb4 k4
  go_wp2_with fail
  refine (R.out _).mono ?_
  rintro e w5 ⟨rfl, hb5⟩
  have Y5 := Lib.hid (Y4.out.below hb5)
  have Z5 := Lib.hid (Z4.out.below hb5)
  have hz5 : w.heap.size < w5.heap.size := Y5.out.lt
  have hz6 := Z5.out.lt
  have F5 : Hid (∀ o, w5.frozen? ⟨w.heap.size, o, none⟩ = false) := Lib.hid fun o => ((bcell hb5).2 _ _ (by simp; omega)).trans (F4.out o)
  have H5 := Lib.hid (bel2 H4.out hb5)
  have n0 := Z5.out 0 _ rfl
  have n1 := Z5.out 1 _ rfl
  clear hb5
  have fz := F5.out
  have m0 := Y5.out 0 _ rfl
  have m1 := Y5.out 1 _ rfl
  have m2 := Y5.out 2 _ rfl
  have m3 := Y5.out 3 _ rfl
  go_wp2_with fail
  refine bodyPost_ret (v := .tuple #[.agg #[.int .i64 0, .int .i64 0, .int .i64 0, .slice none 0 0], .int .i64 900]) (by simp [results, Try.results10, go_sem, m0, m1, m2, m3]) rfl ⟨rfl, ?_⟩
  repeat (first | (with_reducible exact H5.out) | (refine Below.setCell ?_ ?_ _; rotate_left; exact Nat.le_refl _))
set_option maxHeartbeats 3200000 in
theorem get_resp (s D T : ByteArray) (z : UInt8) (x y : Int) (r : Bap.Bp × Int) (w : World) (hD : 0 < D.size) (hD2 : D.size ≤ 2048) (hne : D.toList.isEmpty = false) (hz : D[0]'hD = z) (hT : D.extract 1 D.size = T)
    (C : Hid (∀ W, Calls Try.prog 24 #[.string s] W (CutPost x y D 0 W)))
    (R : Hid (∀ W, Calls Try.prog 19 #[.agg #[.int .i64 x, .int .i64 y]] W fun e w' => e = .returned (.bool true) ∧ Below W.heap.size W w'))
    (K : Hid (∀ W, Calls Try.prog 26 #[.agg #[.int .i64 x, .int .i64 y, .int .i64 (z.toNat : Int)], .string T] W (BpPost r W))) :
    Calls Try.prog 10 #[.string s] w (BpPost r w) := by
  have q0 : (0 : Int) < (D.size : Int) := by omega
  have q1 : (1 : Int) ≤ (D.size : Int) := by omega
  have e1 : wrap64 (z.toNat : Int) = (z.toNat : Int) := wrap64_nat _ (by have := z.toNat_lt; omega)
  have f1 : IntKind.i64.wrap (z.toNat : Int) = (z.toNat : Int) := i64_wrap _ (by have := z.toNat_lt; omega)
  have X1 := Lib.hid (Box.new w [.int .i64 0, .int .i64 0, .int .i64 0, .slice none 0 0] 24)
  have HB := Lib.hid ((Below.refl w.heap.size w).alloc (Nat.le_refl _) (.cells #[.int .i64 0, .int .i64 0, .int .i64 0, .slice none 0 0] 24))
  have fe := fun w => run_embed4 w x y
  go_enter Try.func10, Try.ntmps10
  go_wp2_with fail
  refine (C.out _).mono ?_
  rintro e w4 ⟨rfl, hb4⟩
  have hz4 : w.heap.size < w4.heap.size := (by have := hb4.size; simp at this; omega)
  have k4 := (Below.refl w4.heap.size w4).alloc (Nat.le_refl _) (.cells #[.int .i64 x, .int .i64 y] 49)
  have Y4 := Lib.hid ((X1.out.below hb4).below k4)
  have Z4 := Lib.hid (Box.new w4 [.int .i64 x, .int .i64 y] 49)
  have F4 : Hid (∀ o, (w4.alloc (.cells #[.int .i64 x, .int .i64 y] 49)).frozen? ⟨w.heap.size, o, none⟩ = false) := Lib.hid fun o => ((bcell k4).2 _ _ hz4).trans (((bcell hb4).2 _ _ (by simp)).trans (by simp [go_sem]))
  have H4 := Lib.hid (bel2 (bel2 HB.out hb4) k4)
  have W4 := Lib.hid k4
  clear hb4 k4
  go_wp2_with fail
  refine (R.out _).mono ?_
  rintro e w5 ⟨rfl, hb5⟩
  have Y5 := Lib.hid (Y4.out.below hb5)
  have Z5 := Lib.hid (Z4.out.below hb5)
  have hz5 : w.heap.size < w5.heap.size := Y5.out.lt
  have hz6 := Z5.out.lt
  have F5 : Hid (∀ o, w5.frozen? ⟨w.heap.size, o, none⟩ = false) := Lib.hid fun o => ((bcell hb5).2 _ _ (by simp; omega)).trans (F4.out o)
  have H5 := Lib.hid (bel2 H4.out hb5)
  have n0 := Z5.out 0 _ rfl
  have n1 := Z5.out 1 _ rfl
  clear hb5
  have D5 := Lib.hid H5.out.drew
  have X5 := Lib.hid Y5.out.drew
  go_wp2_with fail
  go_region_with (go_at_call 26; refine (K.out _).mono ?_; rintro e w6 ⟨v, rfl, ho⟩; obtain ⟨p, cap, rfl⟩ := ho.form2; have Y6 := X5.out.below ho.2; have m0 := Y6 0 _ rfl; have m1 := Y6 1 _ rfl; have m2 := Y6 2 _ rfl; have m3 := Y6 3 _ rfl; have fz : ∀ o, w6.frozen? ⟨w.heap.size, o, none⟩ = false := (fun o => ((bcell ho.2).2 _ _ hz5).trans (F5.out o)); clear Y6)
  all_goals
    have A1 := Lib.hid (ho.above (b := w.heap.size) hz5)
    have HO := Lib.hid (ho.base (w := w) D5.out)
    clear ho
    go_wp2_with fail
    refine bodyPost_ret (v := .tuple #[.agg #[.int .i64 r.1.1, .int .i64 r.1.2.1, .int .i64 r.1.2.2.1, .slice p r.1.2.2.2.length cap], .int .i64 r.2]) (by simp [results, Try.results10, go_sem, m0, m1, m2, m3]) rfl ⟨_, rfl, ?_⟩
    repeat (first | (with_reducible exact HO.out) | (refine OwnsO.setCell ?_ ?_ ?_ _; rotate_left; exact Nat.le_refl _; exact A1.out))
/-- The contract of Get. -/
theorem bget_any (l : List UInt8) (w : World) (hm : l.length ≤ 9223372036854775807) : Calls Try.prog 10 #[.string ⟨l.toArray⟩] w (BpPost (Bap.get l) w) := by
  have hs := sz l
  by_cases h : l.length < 4
  · rw [Bap.get_short l h]
    refine (get_cut_bad ⟨l.toArray⟩ _ _ _ 900 w rfl (Lib.hid fun W => cut_short _ W (by rw [hs]; exact h))).mono ?_
    rintro e w' ⟨rfl, hb⟩
    exact ⟨_, rfl, World.ownsRow_nil _ _ _ _, hb⟩
  · have h4 : 4 ≤ l.length := by omega
    have G := fun W => isGood_any ((l[0]'(by omega)).toNat : Int) ((l[1]'(by omega)).toNat : Int) W
    by_cases h1 : Ctl.size l h4 < 4 ∨ l.length < Ctl.size l h4
    · rw [Bap.get_wrong l h4 (by rcases h1 with h1 | h1; exact .inl h1; exact .inr (.inl h1))]
      refine (get_cut_bad ⟨l.toArray⟩ _ _ _ 900 w rfl (Lib.hid fun W => cut_length _ (Ctl.size l h4) _ _ W (by rw [hs]; exact h4) (by rw [hs]; exact hm) rfl (by rw [hs]; exact h1) rfl rfl)).mono ?_
      rintro e w' ⟨rfl, hb⟩
      exact ⟨_, rfl, World.ownsRow_nil _ _ _ _, hb⟩
    · by_cases hg : Bap.gd ((l[0]'(by omega)).toNat : Int) ((l[1]'(by omega)).toNat : Int) = true
      · rw [hg] at G
        by_cases h2 : 2048 < Ctl.size l h4
        · rw [Bap.get_long l h4 (by omega) (by omega) hg h2]
          refine (get_cut_bad ⟨l.toArray⟩ _ _ _ 901 w rfl (Lib.hid fun W => cut_long _ (Ctl.size l h4) _ _ W (by rw [hs]; exact h4) (by rw [hs]; exact hm) rfl (by omega) (by rw [hs]; omega) h2 rfl rfl (Lib.hid G))).mono ?_
          rintro e w' ⟨rfl, hb⟩
          exact ⟨_, rfl, World.ownsRow_nil _ _ _ _, hb⟩
        · rw [Bap.get_body l h4 (by omega) (by omega) hg (by omega)]
          have R := fun W => isResp_any ((l[0]'(by omega)).toNat : Int) ((l[1]'(by omega)).toNat : Int) W
          have hDl : ((l.take (Ctl.size l h4)).drop 4).length ≤ 2048 := by rw [List.length_drop, List.length_take]; omega
          have C := fun W => cut_good ⟨l.toArray⟩ ⟨((l.take (Ctl.size l h4)).drop 4).toArray⟩ (Ctl.size l h4) (l[0]'(by omega)) (l[1]'(by omega)) W (by rw [hs]; exact h4) (by rw [hs]; exact hm) rfl (by omega) (by rw [hs]; omega) (by omega) (cut_list l _ _) rfl rfl (Lib.hid G)
          generalize (l.take (Ctl.size l h4)).drop 4 = B at *
          generalize ((l[0]'(by omega)).toNat : Int) = x at *
          generalize ((l[1]'(by omega)).toNat : Int) = y at *
          cases hr : Bap.resp x
          · rw [hr] at R
            rw [Bap.body_req x y B hr]
            exact get_req _ _ x y _ w (Lib.hid C) (Lib.hid R) (Lib.hid fun W => read_any x y B W (by omega))
          · rw [hr] at R
            cases B with
            | nil =>
              rw [Bap.body_none x y hr]
              refine (get_none _ x y w (Lib.hid C) (Lib.hid R)).mono ?_
              rintro e w' ⟨rfl, hb⟩
              exact ⟨_, rfl, World.ownsRow_nil _ _ _ _, hb⟩
            | cons z t =>
              rw [Bap.body_resp x y z t hr]
              refine get_resp _ _ ⟨t.toArray⟩ z x y _ w (by rw [sz]; simp) (by rw [sz]; exact hDl) (by simp) rfl (tail_list (z :: t) 1) (Lib.hid C) (Lib.hid R) (Lib.hid fun W => rget_any x y (z.toNat : Int) t W (by simp at hDl; omega))
      · have hg2 : Bap.gd ((l[0]'(by omega)).toNat : Int) ((l[1]'(by omega)).toNat : Int) = false := by simpa using hg
        rw [hg2] at G
        rw [Bap.get_wrong l h4 (.inr (.inr hg2))]
        refine (get_cut_bad ⟨l.toArray⟩ _ _ _ 900 w rfl (Lib.hid fun W => cut_wrong _ (Ctl.size l h4) _ _ W (by rw [hs]; exact h4) (by rw [hs]; exact hm) rfl (by omega) (by rw [hs]; omega) rfl rfl (Lib.hid G))).mono ?_
        rintro e w' ⟨rfl, hb⟩
        exact ⟨_, rfl, World.ownsRow_nil _ _ _ _, hb⟩
end Go.Proofs.Ytmonoicdejallaa.Z
