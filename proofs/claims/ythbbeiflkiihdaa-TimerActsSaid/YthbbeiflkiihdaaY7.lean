/-
  Contracts of the library's heap over a pile: pushed, popped, taken out, set right.
-/
import Derived.Test.YthbbeiflkiihdaaY3
import Derived.Test.YthbbeiflkiihdaaY6
namespace Go.Proofs.Ythbbeiflkiihdaa.Y
open Go.RowKit
theorem meth_push (f B : Nat) (w : World) : (method (f + 1) 55 (.pointer (some ⟨B, 0, none⟩)) "Push").run Try.prog w = .ok (50, .pointer (some ⟨B, 0, none⟩)) w := by kernel_rfl
theorem meth_pop (f B : Nat) (w : World) : (method (f + 1) 55 (.pointer (some ⟨B, 0, none⟩)) "Pop").run Try.prog w = .ok (49, .pointer (some ⟨B, 0, none⟩)) w := by kernel_rfl
theorem Mv.grown {B : Nat} {v : Value} {w w' : World} (h : w.grownBy w' v.ownBlock) : Mv B v v w w' := Mv.of_grown h B
set_option maxHeartbeats 1600000 in
theorem hpush_any (B : Nat) (v : Value) (A : List Tim.T) (x : Tim.T) (w : World) (h : Pl B v w A) (hl : A.length ≤ 100000) (hH : Tim.Hp A A.length) :
    Calls Try.prog 19 #[face B, any x] w fun e w' => e = .returned (.tuple #[]) ∧ ∃ v' A', Pl B v' w' A' ∧ A'.Perm (A ++ [x]) ∧ Tim.Hp A' A'.length ∧ Mv B v v' w w' := by
  have HP := Lib.hid (push_any B v A x w h (by omega))
  have HU := Lib.hid (Tim.hp_push hH x)
  have mp := fun f w => meth_push f B w
  unfold face
  clear h hH
  go_enter Try.func19, Try.ntmps19
  go_wp2_with (first | (go_at_call 50; refine HP.out.mono ?_; rintro e w1 ⟨rfl, v1, hp1, hv1⟩; have H1 := Lib.hid hp1; have V1 := Lib.hid hv1; obtain ⟨p1, cap1, rfl⟩ := hp1.form; have c1 := hp1.box.cell 0 _ rfl; have ml := (fun f => meth_len f B _ w1 c1); have HL := Lib.hid (len_any p1 (A.length + 1) cap1 w1); clear hp1 hv1) | (go_at_call 18; refine HL.out.mono ?_; rintro e w2 ⟨rfl, rfl⟩))
  refine (up_any B _ (A ++ [x]) (A.length + 1) A.length _ H1.out (by simp) (by omega) HU.out (by simp; omega)).mono ?_
  rintro e w2 ⟨rfl, A2, hl2, hp2, hq2, _, hh2, hg2⟩
  have H2 := Lib.hid hp2
  have V2 := Lib.hid (V1.out.trans (Mv.of_grown hg2 B))
  have Q2 : Hid (A2.Perm (A ++ [x]) ∧ Tim.Hp A2 A2.length) := Lib.hid ⟨hq2, by rw [hl2, List.length_append, List.length_singleton]; exact hh2⟩
  clear hl2 hp2 hq2 hh2 hg2
  go_wp2_with fail
  go_end0
  exact ⟨rfl, _, A2, H2.out, Q2.out.1, Q2.out.2, V2.out⟩
set_option maxHeartbeats 1600000 in
theorem fix_any (B : Nat) (v : Value) (A : List Tim.T) (i : Nat) (w : World) (h : Pl B v w A) (hl : A.length ≤ 100000) (hi : i < A.length) (hF : Tim.Fx A A.length i) :
    Calls Try.prog 27 #[face B, .int .i64 (i : Int)] w fun e w' => e = .returned (.tuple #[]) ∧ ∃ A', Pl B v w' A' ∧ A'.Perm A ∧ Tim.Hp A' A'.length ∧ Mv B v v w w' := by
  obtain ⟨p, cap, rfl⟩ := h.form
  have HD := Lib.hid (down_any B _ A A.length i w h (Nat.le_refl _) (by omega) hF (by omega))
  have HL := Lib.hid (len_any p A.length cap w)
  have c0 := h.box.cell 0 _ rfl
  have ml := fun f => meth_len f B _ w c0
  unfold face
  clear h hF
  go_enter Try.func27, Try.ntmps27
  go_wp2_with (go_at_call 18; refine HL.out.mono ?_; rintro e w2 ⟨rfl, rfl⟩)
  refine HD.out.mono ?_
  rintro e w1 ⟨r, A1, rfl, hl1, hp1, hq1, _, hr1, hg1⟩
  have H1 := Lib.hid hp1
  have V1 := Lib.hid (Mv.of_grown hg1 B)
  have Q1 := Lib.hid hq1
  have R1 := Lib.hid hr1
  clear hp1 hq1 hr1 hg1 HD HL ml
  cases r
  · have hU : Tim.Up A1 A1.length i := by
      rw [hl1]
      rcases R1.out with ⟨h, _⟩ | ⟨_, h⟩
      · cases h
      · exact h
    have HU := Lib.hid hU
    clear hU R1
    go_wp2_with fail
    refine (up_any B _ A1 A1.length i w1 H1.out (Nat.le_refl _) (by omega) HU.out (by omega)).mono ?_
    rintro e w2 ⟨rfl, A2, hl2, hp2, hq2, _, hh2, hg2⟩
    have H2 := Lib.hid hp2
    have V2 := Lib.hid (V1.out.trans (Mv.of_grown hg2 B))
    have Q2 : Hid (A2.Perm A ∧ Tim.Hp A2 A2.length) := Lib.hid ⟨hq2.trans Q1.out, by rw [hl2]; exact hh2⟩
    clear hl2 hp2 hq2 hh2 hg2
    go_wp2_with fail
    go_end0
    exact ⟨rfl, A2, H2.out, Q2.out.1, Q2.out.2, V2.out⟩
  · have hU : Tim.Hp A1 A1.length := by
      rw [hl1]
      rcases R1.out with ⟨_, h⟩ | ⟨h, _⟩
      · exact h
      · cases h
    have HU := Lib.hid hU
    clear hU R1
    go_wp2_with fail
    go_end0
    exact ⟨rfl, A1, H1.out, Q1.out, HU.out, V1.out⟩
/-- A pile, one taken out of it: what the walks give. -/
def OutPost (B : Nat) (v : Value) (A : List Tim.T) (x : Tim.T) (w : World) (e : Ending) (w' : World) : Prop := e = .returned (any x) ∧ ∃ v' C, Pl B v' w' C ∧ (C ++ [x]).Perm A ∧ Tim.Hp C C.length ∧ Mv B v v' w w' ∧ v'.ownBlock = v.ownBlock
theorem out_post {B n : Nat} {v : Value} {A D : List Tim.T} {x : Tim.T} {w w1 w' : World} {e : Ending} (hl : D.length = n + 1) (hq : D.Perm A) (hx : Tim.g D n = x) (hh : Tim.Hp D n) (hv : Mv B v v w w1)
    (h : e = .returned (any (Tim.g D n)) ∧ ∃ v', Pl B v' w' (D.take n) ∧ Mv B v v' w1 w' ∧ v'.ownBlock = v.ownBlock) : OutPost B v A x w e w' := by
  obtain ⟨rfl, v', hp, hm, hk⟩ := h
  refine ⟨by rw [hx], v', D.take n, hp, ?_, Tim.hp_take hh (by omega), hv.trans hm, hk⟩
  rw [← hx, Tim.take_last D n hl]
  exact hq
theorem drop_g {A D : List Tim.T} {n : Nat} (h : D.drop n = A.drop n) : Tim.g D n = Tim.g A n := by
  unfold Tim.g
  simp only [List.getD_eq_getElem?_getD]
  have : (D.drop n)[0]? = (A.drop n)[0]? := by rw [h]
  simpa using congrArg (fun o => o.getD (0, 0)) this
set_option maxHeartbeats 1600000 in
theorem hpop_any (B n : Nat) (v : Value) (A : List Tim.T) (w : World) (h : Pl B v w A) (hl : A.length = n + 1) (hn : n ≤ 100000) (hH : Tim.Hp A (n + 1)) :
    Calls Try.prog 23 #[face B] w (OutPost B v A (Tim.g A 0) w) := by
  obtain ⟨p, cap, rfl⟩ := h.form
  have c0 := h.box.cell 0 _ rfl
  have ml := fun f => meth_len f B _ w c0
  have ms := fun f => meth_swap f B _ w c0
  have mp := fun f w => meth_pop f B w
  have HL := Lib.hid (len_any p (n + 1) cap w)
  have HS := Lib.hid (swap_pl h 0 n (by omega) (by omega))
  have hF : Tim.Fx (Tim.sw A 0 n) n 0 := by
    rcases Nat.eq_zero_or_pos n with h0 | h0
    · subst h0; exact ⟨fun k _ hk => by omega, fun c _ hc => by omega⟩
    · exact Tim.hp_sw hH (by omega) h0
  have hx : Tim.g (Tim.sw A 0 n) n = Tim.g A 0 := by rw [Tim.g_sw A 0 n n (by omega) (by omega), if_pos rfl]
  have HF := Lib.hid hF
  have HX := Lib.hid hx
  rw [hl] at c0 ml ms HS ⊢
  unfold face
  clear h hF hx hH
  go_enter Try.func23, Try.ntmps23
  go_wp2_with (first | (go_at_call 18; refine HL.out.mono ?_; rintro e w2 ⟨rfl, rfl⟩) | (go_at_call 48; refine HS.out.mono ?_; rintro e w1 ⟨rfl, hp1, hg1⟩; have H1 := Lib.hid hp1; have V1 := Lib.hid (Mv.of_grown hg1 B); clear hp1 hg1))
  have hd := down_any B _ (Tim.sw A 0 n) n 0 w1 H1.out (by rw [Tim.sw_length]; omega) (Nat.zero_le _) HF.out (by rw [Tim.sw_length]; omega)
  refine hd.mono ?_
  rintro e w2 ⟨r, A2, rfl, hl2, hp2, hq2, hd2, hr2, hg2⟩
  have H2 := Lib.hid hp2
  have V2 := Lib.hid (V1.out.trans (Mv.of_grown hg2 B))
  have L2 : Hid (A2.length = n + 1) := Lib.hid (by rw [hl2, Tim.sw_length, hl])
  have Q2 : Hid (A2.Perm A) := Lib.hid (hq2.trans (Tim.sw_perm A 0 n (by omega) (by omega)))
  have X2 : Hid (Tim.g A2 n = Tim.g A 0) := Lib.hid ((drop_g hd2).trans HX.out)
  have HH : Hid (Tim.Hp A2 n) := Lib.hid (by rcases hr2 with ⟨_, h⟩ | ⟨_, h⟩; exact h; exact Tim.up_zero h)
  have HPO := Lib.hid (pop_any B n _ A2 w2 H2.out L2.out (by omega))
  clear hd hl2 hp2 hq2 hd2 hr2 hg2
  go_wp2_with fail
  refine HPO.out.mono ?_
  intro e w3 h3
  have P3 := Lib.hid (out_post L2.out Q2.out X2.out HH.out V2.out h3)
  obtain ⟨rfl, _⟩ := h3
  go_wp2_with fail
  go_ret
  exact P3.out
set_option maxHeartbeats 3200000 in
theorem remove_any (B n i : Nat) (v : Value) (A : List Tim.T) (w : World) (h : Pl B v w A) (hl : A.length = n + 1) (hn : n ≤ 100000) (hi : i ≤ n) (hH : Tim.Hp A (n + 1)) :
    Calls Try.prog 21 #[face B, .int .i64 (i : Int)] w (OutPost B v A (Tim.g A i) w) := by
  obtain ⟨p, cap, rfl⟩ := h.form
  have c0 := h.box.cell 0 _ rfl
  have ml := fun f => meth_len f B _ w c0
  have ms := fun f => meth_swap f B _ w c0
  have mp := fun f w => meth_pop f B w
  have HL := Lib.hid (len_any p (n + 1) cap w)
  rw [hl] at c0 ml ms ⊢
  by_cases hin : i = n
  · subst hin
    have HPO := Lib.hid (pop_any B i _ A w h hl (by omega))
    have HH := Lib.hid (Tim.hp_less hH (Nat.le_succ i))
    have q1 : ((i : Int) != (i : Int)) = false := by simp
    unfold face
    clear h hH ms
    go_enter Try.func21, Try.ntmps21
    go_wp2_with (go_at_call 18; refine HL.out.mono ?_; rintro e w2 ⟨rfl, rfl⟩)
    refine HPO.out.mono ?_
    intro e w3 h3
    rw [hl] at h3
    have P3 := Lib.hid (out_post hl (List.Perm.refl _) rfl HH.out (Mv.refl _ _ _) h3)
    obtain ⟨rfl, _⟩ := h3
    go_wp2_with fail
    go_ret
    exact P3.out
  · have HS := Lib.hid (swap_pl h i n (by omega) (by omega))
    have HF := Lib.hid (Tim.hp_sw hH (by omega) (show i < n by omega))
    have HX : Hid (Tim.g (Tim.sw A i n) n = Tim.g A i) := Lib.hid (by rw [Tim.g_sw A i n n (by omega) (by omega), if_pos rfl])
    have q1 : ((n : Int) != (i : Int)) = true := by rw [bne_iff_ne]; omega
    rw [hl] at HS
    unfold face
    clear h hH
    go_enter Try.func21, Try.ntmps21
    go_wp2_with (first | (go_at_call 18; refine HL.out.mono ?_; rintro e w2 ⟨rfl, rfl⟩) | (go_at_call 48; refine HS.out.mono ?_; rintro e w1 ⟨rfl, hp1, hg1⟩; have H1 := Lib.hid hp1; have V1 := Lib.hid (Mv.of_grown hg1 B); clear hp1 hg1))
    have hd := down_any B _ (Tim.sw A i n) n i w1 H1.out (by rw [Tim.sw_length]; omega) (by omega) HF.out (by rw [Tim.sw_length]; omega)
    refine hd.mono ?_
    rintro e w2 ⟨r, A2, rfl, hl2, hp2, hq2, hd2, hr2, hg2⟩
    have H2 := Lib.hid hp2
    have V2 := Lib.hid (V1.out.trans (Mv.of_grown hg2 B))
    have L2 : Hid (A2.length = n + 1) := Lib.hid (by rw [hl2, Tim.sw_length, hl])
    have Q2 : Hid (A2.Perm A) := Lib.hid (hq2.trans (Tim.sw_perm A i n (by omega) (by omega)))
    have X2 : Hid (Tim.g A2 n = Tim.g A i) := Lib.hid ((drop_g hd2).trans HX.out)
    have R2 := Lib.hid hr2
    clear hd hl2 hp2 hq2 hd2 hr2 hg2
    cases r
    · have HU : Hid (Tim.Up A2 n i) := Lib.hid (by rcases R2.out with ⟨h, _⟩ | ⟨_, h⟩; cases h; exact h)
      clear R2
      go_wp2_with fail
      refine (up_any B _ A2 n i w2 H2.out (by rw [L2.out]; omega) (by omega) HU.out (by rw [L2.out]; omega)).mono ?_
      rintro e w3 ⟨rfl, A3, hl3, hp3, hq3, hd3, hh3, hg3⟩
      have L3 : Hid (A3.length = n + 1) := Lib.hid (by rw [hl3]; exact L2.out)
      have V3 := Lib.hid (V2.out.trans (Mv.of_grown hg3 B))
      have Q3 := Lib.hid (hq3.trans Q2.out)
      have X3 := Lib.hid ((drop_g hd3).trans X2.out)
      have H3 := Lib.hid hh3
      have HPO := Lib.hid (pop_any B n _ A3 w3 hp3 L3.out (by omega))
      clear hl3 hp3 hq3 hd3 hh3 hg3
      go_wp2_with fail
      refine HPO.out.mono ?_
      intro e w4 h4
      have P4 := Lib.hid (out_post L3.out Q3.out X3.out H3.out V3.out h4)
      obtain ⟨rfl, _⟩ := h4
      go_wp2_with fail
      go_ret
      exact P4.out
    · have HH : Hid (Tim.Hp A2 n) := Lib.hid (by rcases R2.out with ⟨_, h⟩ | ⟨h, _⟩; exact h; cases h)
      have HPO := Lib.hid (pop_any B n _ A2 w2 H2.out L2.out (by omega))
      clear R2
      go_wp2_with fail
      refine HPO.out.mono ?_
      intro e w4 h4
      have P4 := Lib.hid (out_post L2.out Q2.out X2.out HH.out V2.out h4)
      obtain ⟨rfl, _⟩ := h4
      go_wp2_with fail
      go_ret
      exact P4.out
end Go.Proofs.Ythbbeiflkiihdaa.Y
