/-
  Contract of the heap's way down.
-/
import Derived.Test.YthbbeiflkiihdaaY2
namespace Go.Proofs.Ythbbeiflkiihdaa.Y
open Go.RowKit
/-- What the way down leaves. -/
def DownPost (B : Nat) (v : Value) (A : List Tim.T) (n i : Nat) (w : World) (e : Ending) (w' : World) : Prop := ∃ (r : Bool) (A' : List Tim.T), e = .returned (.bool r) ∧ A'.length = A.length ∧ Pl B v w' A' ∧ A'.Perm A ∧ A'.drop n = A.drop n ∧ (r = true ∧ Tim.Hp A' n ∨ r = false ∧ Tim.Up A' n i) ∧ w.grownBy w' v.ownBlock
theorem kid_end {A : List Tim.T} {n k : Nat} (h1 : ¬2 * k + 1 < n) : ∀ c, 0 < c → c < n → (c - 1) / 2 = k → ¬Tim.tl (Tim.g A c) (Tim.g A k) := fun c h0 hn hk => by omega
theorem kid_one {A : List Tim.T} {n k : Nat} (h2 : ¬2 * k + 2 < n) {x : Tim.T} (h : ¬Tim.tl (Tim.g A (2 * k + 1)) x) : ∀ c, 0 < c → c < n → (c - 1) / 2 = k → ¬Tim.tl (Tim.g A c) x := fun c h0 hn hk => by
  obtain rfl : c = 2 * k + 1 := by omega
  exact h
theorem kid_two {A : List Tim.T} {n k : Nat} {x : Tim.T} (h : ¬Tim.tl (Tim.g A (2 * k + 1)) x) (h' : ¬Tim.tl (Tim.g A (2 * k + 2)) x) : ∀ c, 0 < c → c < n → (c - 1) / 2 = k → ¬Tim.tl (Tim.g A c) x := fun c h0 hn hk => by
  have : c = 2 * k + 1 ∨ c = 2 * k + 2 := by omega
  rcases this with rfl | rfl
  · exact h
  · exact h'
set_option maxRecDepth 100000 in
set_option maxHeartbeats 6400000 in
theorem down_any (B : Nat) (v : Value) (A : List Tim.T) (n i : Nat) (w : World) (h : Pl B v w A) (hn : n ≤ A.length) (hi : i ≤ n) (hF : Tim.Fx A n i) (hs : A.length ≤ 1000000) :
    Calls Try.prog 29 #[face B, .int .i64 (i : Int), .int .i64 (n : Int)] w (DownPost B v A n i w) := by
  obtain ⟨p, cap, rfl⟩ := h.form
  obtain ⟨m, hm⟩ : ∃ m, A.length = m := ⟨_, rfl⟩
  rw [hm] at h hn hs ⊢
  unfold face
  have H := Lib.hid h
  have HF := Lib.hid hF
  clear h hF
  go_enter Try.func29, Try.ntmps29
  go_wp2_with fail
  go_loopw [7, 8, 9, 10] (fun t7 _ _ _ wr => ∃ (k : Nat) (A' : List Tim.T), i ≤ k ∧ k ≤ n ∧ t7 = .int .i64 (k : Int) ∧ A'.length = m ∧ Pl B (.slice p m cap) wr A' ∧ A'.Perm A ∧ A'.drop n = A.drop n ∧ (k = i ∧ Tim.Fx A' n k ∨ i < k ∧ Tim.Dn A' n k) ∧ w.grownBy wr (Value.slice p m cap).ownBlock) (fun t7 _ _ _ _ => n - (intOf t7).toNat)
  case atStart => exact ⟨i, A, Nat.le_refl _, hi, rfl, hm, H.out, List.Perm.refl _, rfl, .inl ⟨rfl, HF.out⟩, ⟨rfl, rfl, rfl, Nat.le_refl _, fun _ _ _ => rfl⟩⟩
  case round =>
    obtain ⟨k, A', hik, hk, rfl, hl, hp, hperm, hdrop, hfx, hg⟩ := hrel
    have HP := Lib.hid hp
    have HG := Lib.hid hg
    have HQ : Hid (A'.Perm A ∧ A'.drop n = A.drop n) := Lib.hid ⟨hperm, hdrop⟩
    have HX := Lib.hid hfx
    have HFX : Hid (Tim.Fx A' n k) := Lib.hid (by rcases hfx with h | h; exact h.2; exact Tim.dn_fx h.2)
    have HEND : Hid ((∀ c, 0 < c → c < n → (c - 1) / 2 = k → ¬Tim.tl (Tim.g A' c) (Tim.g A' k)) → (decide (i < k) = true ∧ Tim.Hp A' n ∨ decide (i < k) = false ∧ Tim.Up A' n i)) := Lib.hid fun hc => by
      rcases hfx with ⟨rfl, h⟩ | ⟨hlt, h⟩
      · exact .inr ⟨decide_eq_false (by omega), Tim.fx_end h hc⟩
      · exact .inl ⟨decide_eq_true hlt, Tim.dn_end h hc⟩
    clear hp hg hperm hdrop hfx
    have c0 := HP.out.box.cell 0 _ rfl
    have m1 := fun f => meth_less f B _ wr c0
    have z1 : decide ((i : Int) < (k : Int)) = decide (i < k) := by rw [decide_eq_decide]; omega
    obtain ⟨a, ha⟩ : ∃ a, a = 2 * k + 1 := ⟨_, rfl⟩
    obtain ⟨b, hb⟩ : ∃ b, b = 2 * k + 2 := ⟨_, rfl⟩
    have e1 : 2 * (k : Int) + 1 = (a : Int) := by omega
    have e2 : (a : Int) + 1 = (b : Int) := by omega
    have a0 : ¬((a : Int) < 0) := by omega
    have bz : b ≤ 3000000 := by omega
    have az : a ≤ 3000000 := by omega
    by_cases han : a < n
    · have k_n : k < n := by omega
      by_cases hbn : b < n
      · by_cases hlt1 : Tim.tl (Tim.g A' b) (Tim.g A' a)
        · by_cases hlt2 : Tim.tl (Tim.g A' b) (Tim.g A' k)
          · have d2 : decide (Tim.tl (Tim.g A' b) (Tim.g A' k)) = true := decide_eq_true hlt2
            have HL : Hid (Calls Try.prog 47 #[.slice p m cap, .int .i64 (b : Int), .int .i64 (a : Int)] wr fun e w' => e = .returned (.bool true) ∧ Below wr.heap.size wr w') := Lib.hid ((decide_eq_true hlt1 : decide (Tim.tl (Tim.g A' b) (Tim.g A' a)) = true) ▸ less_any HP.out.arr b a (by omega) (by omega))
            have AB : Hid (a = 2 * k + 1 ∧ b = 2 * k + 2) := Lib.hid ⟨ha, hb⟩
            have D2 := Lib.hid d2
            clear ha hb d2
            go_wp2_with (first | (go_at_call 47; with_reducible refine HL.out.mono ?_; rintro e w2 ⟨rfl, hb2⟩; have HP2 := Lib.hid (HP.out.below hb2); have HG2 := Lib.hid (gbelow HG.out hb2); have c2 := HP2.out.box.cell 0 _ rfl; have m2 := (fun f => meth_less f B _ w2 c2); have HM : Hid (Calls Try.prog 47 #[.slice p m cap, .int .i64 (b : Int), .int .i64 (k : Int)] w2 fun e w' => e = .returned (.bool true) ∧ Below w2.heap.size w2 w') := Lib.hid (D2.out ▸ less_any HP2.out.arr b k (by omega) (by omega)); clear hb2 HL) | (go_at_call 47; with_reducible refine HM.out.mono ?_; rintro e w3 ⟨rfl, hb3⟩; have HP3 := Lib.hid (HP2.out.below hb3); have HG3 := Lib.hid (gbelow HG2.out hb3); have c3 := HP3.out.box.cell 0 _ rfl; have m3 := (fun f => meth_swap f B _ w3 c3); have HS := Lib.hid (swap_pl HP3.out k b (by omega) (by omega)); clear hb3 HM) | (go_at_call 48; with_reducible refine HS.out.mono ?_; rintro e w4 ⟨rfl, hp4, hg4⟩))
            have HP4 := Lib.hid hp4
            have HG4 := Lib.hid (gtrans HG3.out hg4)
            obtain ⟨ha, hb⟩ := AB.out
            have HQ4 : Hid (Tim.Dn (Tim.sw A' k b) n b) := Lib.hid (Tim.fx_step HFX.out (by omega) (by omega) hbn (by omega) hlt2 (by subst ha hb; exact kid_two (Tim.tl_asymm hlt1) (Tim.tl_irrefl _)))
            have HS1 := Lib.hid ((Tim.sw_perm A' k b (by omega) (by omega)).trans HQ.out.1)
            have HS2 := Lib.hid ((drop_sw A' k b n k_n hbn).trans HQ.out.2)
            have HS3 : Hid (i < b ∧ b ≤ n ∧ k < b) := Lib.hid (by omega)
            clear hp4 hg4 hlt2 ha hb
            go_roundw
            case rel => exact ⟨b, Tim.sw A' k b, Nat.le_of_lt HS3.out.1, HS3.out.2.1, rfl, by rw [Tim.sw_length, hl], HP4.out, HS1.out, HS2.out, .inr ⟨HS3.out.1, HQ4.out⟩, HG4.out⟩
            case measure => have := HS3.out; simp [intOf]; omega
          · have d2 : decide (Tim.tl (Tim.g A' b) (Tim.g A' k)) = false := decide_eq_false hlt2
            have HL : Hid (Calls Try.prog 47 #[.slice p m cap, .int .i64 (b : Int), .int .i64 (a : Int)] wr fun e w' => e = .returned (.bool true) ∧ Below wr.heap.size wr w') := Lib.hid ((decide_eq_true hlt1 : decide (Tim.tl (Tim.g A' b) (Tim.g A' a)) = true) ▸ less_any HP.out.arr b a (by omega) (by omega))
            have AB : Hid (a = 2 * k + 1 ∧ b = 2 * k + 2) := Lib.hid ⟨ha, hb⟩
            have D2 := Lib.hid d2
            clear ha hb d2
            go_wp2_with (first | (go_at_call 47; with_reducible refine HL.out.mono ?_; rintro e w2 ⟨rfl, hb2⟩; have HP2 := Lib.hid (HP.out.below hb2); have HG2 := Lib.hid (gbelow HG.out hb2); have c2 := HP2.out.box.cell 0 _ rfl; have m2 := (fun f => meth_less f B _ w2 c2); have HM : Hid (Calls Try.prog 47 #[.slice p m cap, .int .i64 (b : Int), .int .i64 (k : Int)] w2 fun e w' => e = .returned (.bool false) ∧ Below w2.heap.size w2 w') := Lib.hid (D2.out ▸ less_any HP2.out.arr b k (by omega) (by omega)); clear hb2 HL) | (go_at_call 47; with_reducible refine HM.out.mono ?_; rintro e w3 ⟨rfl, hb3⟩))
            obtain ⟨ha, hb⟩ := AB.out
            go_ret
            refine ⟨decide (i < k), A', by first | rfl | rw [z1], hl.trans hm.symm, HP2.out.below hb3, HQ.out.1, HQ.out.2, HEND.out (by subst ha hb; exact kid_two (fun e => hlt2 (Tim.tl_trans hlt1 e)) hlt2), gbelow HG2.out hb3⟩
        · by_cases hlt2 : Tim.tl (Tim.g A' a) (Tim.g A' k)
          · have d2 : decide (Tim.tl (Tim.g A' a) (Tim.g A' k)) = true := decide_eq_true hlt2
            have HL : Hid (Calls Try.prog 47 #[.slice p m cap, .int .i64 (b : Int), .int .i64 (a : Int)] wr fun e w' => e = .returned (.bool false) ∧ Below wr.heap.size wr w') := Lib.hid ((decide_eq_false hlt1 : decide (Tim.tl (Tim.g A' b) (Tim.g A' a)) = false) ▸ less_any HP.out.arr b a (by omega) (by omega))
            have AB : Hid (a = 2 * k + 1 ∧ b = 2 * k + 2) := Lib.hid ⟨ha, hb⟩
            have D2 := Lib.hid d2
            clear ha hb d2
            go_wp2_with (first | (go_at_call 47; with_reducible refine HL.out.mono ?_; rintro e w2 ⟨rfl, hb2⟩; have HP2 := Lib.hid (HP.out.below hb2); have HG2 := Lib.hid (gbelow HG.out hb2); have c2 := HP2.out.box.cell 0 _ rfl; have m2 := (fun f => meth_less f B _ w2 c2); have HM : Hid (Calls Try.prog 47 #[.slice p m cap, .int .i64 (a : Int), .int .i64 (k : Int)] w2 fun e w' => e = .returned (.bool true) ∧ Below w2.heap.size w2 w') := Lib.hid (D2.out ▸ less_any HP2.out.arr a k (by omega) (by omega)); clear hb2 HL) | (go_at_call 47; with_reducible refine HM.out.mono ?_; rintro e w3 ⟨rfl, hb3⟩; have HP3 := Lib.hid (HP2.out.below hb3); have HG3 := Lib.hid (gbelow HG2.out hb3); have c3 := HP3.out.box.cell 0 _ rfl; have m3 := (fun f => meth_swap f B _ w3 c3); have HS := Lib.hid (swap_pl HP3.out k a (by omega) (by omega)); clear hb3 HM) | (go_at_call 48; with_reducible refine HS.out.mono ?_; rintro e w4 ⟨rfl, hp4, hg4⟩))
            have HP4 := Lib.hid hp4
            have HG4 := Lib.hid (gtrans HG3.out hg4)
            obtain ⟨ha, hb⟩ := AB.out
            have HQ4 : Hid (Tim.Dn (Tim.sw A' k a) n a) := Lib.hid (Tim.fx_step HFX.out (by omega) (by omega) han (by omega) hlt2 (by subst ha hb; exact kid_two (Tim.tl_irrefl _) hlt1))
            have HS1 := Lib.hid ((Tim.sw_perm A' k a (by omega) (by omega)).trans HQ.out.1)
            have HS2 := Lib.hid ((drop_sw A' k a n k_n han).trans HQ.out.2)
            have HS3 : Hid (i < a ∧ a ≤ n ∧ k < a) := Lib.hid (by omega)
            clear hp4 hg4 hlt2 ha hb
            go_roundw
            case rel => exact ⟨a, Tim.sw A' k a, Nat.le_of_lt HS3.out.1, HS3.out.2.1, rfl, by rw [Tim.sw_length, hl], HP4.out, HS1.out, HS2.out, .inr ⟨HS3.out.1, HQ4.out⟩, HG4.out⟩
            case measure => have := HS3.out; simp [intOf]; omega
          · have d2 : decide (Tim.tl (Tim.g A' a) (Tim.g A' k)) = false := decide_eq_false hlt2
            have HL : Hid (Calls Try.prog 47 #[.slice p m cap, .int .i64 (b : Int), .int .i64 (a : Int)] wr fun e w' => e = .returned (.bool false) ∧ Below wr.heap.size wr w') := Lib.hid ((decide_eq_false hlt1 : decide (Tim.tl (Tim.g A' b) (Tim.g A' a)) = false) ▸ less_any HP.out.arr b a (by omega) (by omega))
            have AB : Hid (a = 2 * k + 1 ∧ b = 2 * k + 2) := Lib.hid ⟨ha, hb⟩
            have D2 := Lib.hid d2
            clear ha hb d2
            go_wp2_with (first | (go_at_call 47; with_reducible refine HL.out.mono ?_; rintro e w2 ⟨rfl, hb2⟩; have HP2 := Lib.hid (HP.out.below hb2); have HG2 := Lib.hid (gbelow HG.out hb2); have c2 := HP2.out.box.cell 0 _ rfl; have m2 := (fun f => meth_less f B _ w2 c2); have HM : Hid (Calls Try.prog 47 #[.slice p m cap, .int .i64 (a : Int), .int .i64 (k : Int)] w2 fun e w' => e = .returned (.bool false) ∧ Below w2.heap.size w2 w') := Lib.hid (D2.out ▸ less_any HP2.out.arr a k (by omega) (by omega)); clear hb2 HL) | (go_at_call 47; with_reducible refine HM.out.mono ?_; rintro e w3 ⟨rfl, hb3⟩))
            obtain ⟨ha, hb⟩ := AB.out
            go_ret
            refine ⟨decide (i < k), A', by first | rfl | rw [z1], hl.trans hm.symm, HP2.out.below hb3, HQ.out.1, HQ.out.2, HEND.out (by subst ha hb; exact kid_two hlt2 (Tim.nt (fun e => hlt2 e) hlt1)), gbelow HG2.out hb3⟩
      · by_cases hlt2 : Tim.tl (Tim.g A' a) (Tim.g A' k)
        · have d2 : decide (Tim.tl (Tim.g A' a) (Tim.g A' k)) = true := decide_eq_true hlt2
          have HM : Hid (Calls Try.prog 47 #[.slice p m cap, .int .i64 (a : Int), .int .i64 (k : Int)] wr fun e w' => e = .returned (.bool true) ∧ Below wr.heap.size wr w') := Lib.hid (d2 ▸ less_any HP.out.arr a k (by omega) (by omega))
          have AB : Hid (a = 2 * k + 1 ∧ b = 2 * k + 2) := Lib.hid ⟨ha, hb⟩
          clear ha hb d2
          go_wp2_with (first | (go_at_call 47; with_reducible refine HM.out.mono ?_; rintro e w3 ⟨rfl, hb3⟩; have HP3 := Lib.hid (HP.out.below hb3); have HG3 := Lib.hid (gbelow HG.out hb3); have c3 := HP3.out.box.cell 0 _ rfl; have m3 := (fun f => meth_swap f B _ w3 c3); have HS := Lib.hid (swap_pl HP3.out k a (by omega) (by omega)); clear hb3 HM) | (go_at_call 48; with_reducible refine HS.out.mono ?_; rintro e w4 ⟨rfl, hp4, hg4⟩))
          have HP4 := Lib.hid hp4
          have HG4 := Lib.hid (gtrans HG3.out hg4)
          obtain ⟨ha, hb⟩ := AB.out
          have HQ4 : Hid (Tim.Dn (Tim.sw A' k a) n a) := Lib.hid (Tim.fx_step HFX.out (by omega) (by omega) han (by omega) hlt2 (by subst ha hb; exact kid_one hbn (Tim.tl_irrefl _)))
          have HS1 := Lib.hid ((Tim.sw_perm A' k a (by omega) (by omega)).trans HQ.out.1)
          have HS2 := Lib.hid ((drop_sw A' k a n k_n han).trans HQ.out.2)
          have HS3 : Hid (i < a ∧ a ≤ n ∧ k < a) := Lib.hid (by omega)
          clear hp4 hg4 hlt2 ha hb
          go_roundw
          case rel => exact ⟨a, Tim.sw A' k a, Nat.le_of_lt HS3.out.1, HS3.out.2.1, rfl, by rw [Tim.sw_length, hl], HP4.out, HS1.out, HS2.out, .inr ⟨HS3.out.1, HQ4.out⟩, HG4.out⟩
          case measure => have := HS3.out; simp [intOf]; omega
        · have d2 : decide (Tim.tl (Tim.g A' a) (Tim.g A' k)) = false := decide_eq_false hlt2
          have HM : Hid (Calls Try.prog 47 #[.slice p m cap, .int .i64 (a : Int), .int .i64 (k : Int)] wr fun e w' => e = .returned (.bool false) ∧ Below wr.heap.size wr w') := Lib.hid (d2 ▸ less_any HP.out.arr a k (by omega) (by omega))
          have AB : Hid (a = 2 * k + 1 ∧ b = 2 * k + 2) := Lib.hid ⟨ha, hb⟩
          clear ha hb d2
          go_wp2_with (go_at_call 47; with_reducible refine HM.out.mono ?_; rintro e w3 ⟨rfl, hb3⟩)
          obtain ⟨ha, hb⟩ := AB.out
          go_ret
          refine ⟨decide (i < k), A', by first | rfl | rw [z1], hl.trans hm.symm, HP.out.below hb3, HQ.out.1, HQ.out.2, HEND.out (by subst ha hb; exact kid_one hbn hlt2), gbelow HG.out hb3⟩
    · have AB : Hid (a = 2 * k + 1 ∧ b = 2 * k + 2) := Lib.hid ⟨ha, hb⟩
      have q1 : decide ((n : Int) ≤ (a : Int)) = true := decide_eq_true (by omega)
      clear ha hb
      go_wp2_with fail
      obtain ⟨ha, hb⟩ := AB.out
      go_ret
      refine ⟨decide (i < k), A', by first | rfl | rw [z1], hl.trans hm.symm, HP.out, HQ.out.1, HQ.out.2, HEND.out (by subst ha hb; exact kid_end han), HG.out⟩
end Go.Proofs.Ythbbeiflkiihdaa.Y
