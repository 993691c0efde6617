/-
  Contract of the document's own step.
-/
import Derived.Test.YtokkecbnbojlnaaDoorU0
import Derived.Test.YtokkecbnbojlnaaDoorU1
import Derived.Test.YtokkecbnbojlnaaDoorU2
import Derived.OwnWalk
namespace Go.Proofs.YtokkecbnbojlnaaDoor.U
open Go.RowKit
theorem nil_yes (w : World) : (binOp .eql 40 (.slice none 0 0) (.slice none 0 0)).run Tryd.prog w = .ok (.bool true) w := rfl
theorem nil_no (a : Addr) (n c : Nat) (w : World) : (binOp .eql 40 (.slice (some a) n c) (.slice none 0 0)).run Tryd.prog w = .ok (.bool false) w := rfl
theorem ref_none (s v : Int) (hv : ¬(0 ≤ v ∧ v ≤ 15)) (w : World) : Calls Tryd.prog 11 #[.int .i64 s, .int .i64 v] w (StepPost (0, [], 1000) w) := by
  have HR := Lib.hid fun W => row_none v hv W
  have e1 := nil_yes
  clear hv
  go_enter Tryd.func11, Tryd.ntmps11
  go_wp2_with fail
  refine (HR.out _).mono ?_
  rintro e w1 ⟨rfl, rfl⟩
  go_wp2_with fail
  go_ret3
  exact post_nil (Below.refl _ _)
theorem ref_state (s : Int) (v : Nat) (hv : v < 16) (hs : ¬(0 ≤ s ∧ s ≤ 9)) (w : World) : Calls Tryd.prog 11 #[.int .i64 s, .int .i64 (v : Int)] w (StepPost (0, [], 1000) w) := by
  have HR := Lib.hid fun W => row_any v hv W
  have e1 := nil_no
  by_cases h0 : s < 0
  · clear hs
    go_enter Tryd.func11, Tryd.ntmps11
    go_wp2_with fail
    refine (HR.out _).mono ?_
    rintro e w1 ⟨g, rfl, hb, _⟩
    have HB := Lib.hid hb
    go_wp2_with fail
    go_ret3
    exact post_nil HB.out
  · have h9 : 9 < s := by omega
    clear hs
    go_enter Tryd.func11, Tryd.ntmps11
    go_wp2_with fail
    refine (HR.out _).mono ?_
    rintro e w1 ⟨g, rfl, hb, _⟩
    have HB := Lib.hid hb
    go_wp2_with fail
    go_ret3
    exact post_nil HB.out
theorem ref_never (s v : Nat) (hs : s < 10) (hv : v < 16) (ht : Fsm.text s v = [45]) (w : World) : Calls Tryd.prog 11 #[.int .i64 (s : Int), .int .i64 (v : Int)] w (StepPost (0, [], 1001) w) := by
  have HR := Lib.hid fun W => row_any v hv W
  have e1 := nil_no
  have h0 : ¬((s : Int) < 0) := by omega
  have h9 : ¬((9 : Int) < s) := by omega
  have HT := Lib.hid ht
  clear ht
  go_enter Tryd.func11, Tryd.ntmps11
  go_wp2_with fail
  refine (HR.out _).mono ?_
  rintro e w1 ⟨g, rfl, hb, hc⟩
  have HB := Lib.hid hb
  have c0 := hc s hs
  rw [HT.out] at c0
  have hi := fun W => txt_index g 10 10 s hs W
  clear hb hc
  go_wp2_with fail
  go_ret3
  exact post_nil HB.out
set_option maxHeartbeats 800000 in
theorem ref_walk (s v : Nat) (hs : s < 10) (c : ByteArray) (L : List Int) (t : Nat) (ht : t ≤ 9) (hL : L.length ≤ 3) (w : World)
    (HR : Hid (∀ W, Calls Tryd.prog 19 #[.int .i64 (v : Int)] W fun e w' => ∃ g, e = .returned (.slice (some ⟨g, 0, none⟩) 10 10) ∧ Below W.heap.size W w' ∧ w'.cell? ⟨g, s, none⟩ = some (.string c)))
    (q1 : (c.toList == [45]) = false) (hsz : c.size = 4 * L.length + 1) (hlast : ∀ h : 4 * L.length < c.size, (c[4 * L.length]'h).toNat = 48 + t)
    (ACT : Hid (∀ k (h : k < L.length) W, Calls Tryd.prog 20 #[.string (c.extract (4 * k) (4 * k + 3))] W fun e w' => e = .returned (.int .i64 L[k]) ∧ Below W.heap.size W w')) :
    Calls Tryd.prog 11 #[.int .i64 (s : Int), .int .i64 (v : Int)] w (StepPost ((t : Int), L, 0) w) := by
  have e1 := nil_no
  have h0 : ¬((s : Int) < 0) := by omega
  have h9 : ¬((9 : Int) < s) := by omega
  go_enter Tryd.func11, Tryd.ntmps11
  go_wp2_with fail
  refine (HR.out _).mono ?_
  rintro e w1 ⟨g, rfl, hb, c0⟩
  have HB := Lib.hid hb
  have hi := fun W => txt_index g 10 10 s hs W
  clear hb
  go_wp2_with fail
  go_loopw [9, 10] (fun a i wr => ∃ k : Nat, k ≤ L.length ∧ i = .int .i64 ((4 * k : Nat) : Int) ∧ ∃ p cap, a = .slice p k cap ∧ OwnsI w wr (.slice p k cap) (L.take k)) (fun _ i _ => 4 * L.length - (intOf i).toNat)
  case atStart => exact ⟨0, by omega, rfl, none, 0, rfl, ⟨World.ownsRow_nil _ _ _ _, HB.out⟩⟩
  case round =>
    obtain ⟨k, hk, rfl, p, cap, rfl, ho⟩ := hrel
    have HO := Lib.hid ho
    clear ho c0
    by_cases hlt : k < L.length
    · have HS := Lib.hid (List.take_succ_eq_append_getElem hlt)
      have hcall := fun W => ACT.out k hlt W
      have HN : Hid ((L.take k).length = k) := Lib.hid (by rw [List.length_take]; omega)
      generalize L[k] = z at *
      have HC := Lib.hid hcall
      clear hcall
      go_wp2_with fail
      refine (HC.out _).mono ?_
      rintro e w2 ⟨rfl, hb2⟩
      have A2 := (Below.refl w2.heap.size w2).alloc (Nat.le_refl _) (.cells #[.int .i64 z] 3)
      have HO2 := Lib.hid ((HO.out.below hb2).below A2)
      have HL := Lib.hid (readsI_lit w2 _ rfl [z] #[.int .i64 z] rfl)
      have hlen : ((L.take k).length + [z].length) * 8 ≤ 140737488355328 := by rw [HN.out]; simp; omega
      clear hb2 A2
      go_wp2_with (at_builtin; refine wp_catI rfl _ _ rfl (L.take k) [z] HO2.out HL.out rfl rfl hlen ?_)
      intro v' w3 ho3
      obtain ⟨p3, cap3, rfl⟩ := ho3.reads.form
      have HO3 : Hid (OwnsI w w3 (.slice p3 (k + 1) cap3) (L.take (k + 1))) := by
        rw [HS.out]
        have h := ho3
        rw [List.length_append, HN.out] at h
        exact Lib.hid h
      rw [List.length_append, HN.out, List.length_singleton]
      clear ho3 hlen
      go_wp2_with fail
      go_roundw
      case rel => exact ⟨k + 1, by omega, by go_num, p3, cap3, rfl, HO3.out⟩
      case measure => simp [intOf]; omega
    · obtain rfl : k = L.length := by omega
      go_wp2_with fail
      go_ret3
      refine ⟨p, cap, ?_, by have h := HO.out; rwa [List.take_length] at h⟩
      simp
      omega
theorem ref_any (s v : Int) (w : World) : Calls Tryd.prog 11 #[.int .i64 s, .int .i64 v] w (StepPost (Fsm.step s v) w) := by
  by_cases hv : 0 ≤ v ∧ v ≤ 15
  · obtain ⟨v, rfl⟩ : ∃ n : Nat, v = n := ⟨v.toNat, by omega⟩
    have hv : v < 16 := by omega
    by_cases hs : 0 ≤ s ∧ s ≤ 9
    · obtain ⟨s, rfl⟩ : ∃ n : Nat, s = n := ⟨s.toNat, by omega⟩
      have hs : s < 10 := by omega
      rw [Fsm.step_in s v hs hv]
      by_cases ht : Fsm.text s v = [45]
      · rw [Fsm.place_never s v hs hv ht]
        exact ref_never s v hs hv ht w
      · obtain ⟨t, L, h9, hp, hlen, h3, hact, b, hb, hb2⟩ := Fsm.place_text s v hs hv ht
        rw [hp]
        refine ref_walk s v hs ⟨(Fsm.text s v).toArray⟩ L t h9 h3 w (Lib.hid fun W => ?_) (by simpa using ht) (by rw [sz, hlen]) (fun h => ?_) (Lib.hid fun k hk W => ?_)
        · refine (row_any v hv W).mono ?_
          rintro e w1 ⟨g, rfl, h1, h2⟩
          exact ⟨g, rfl, h1, h2 s hs⟩
        · have h2 := (List.getElem?_eq_some_iff.1 hb).2
          rw [← hb2, ← h2]
          rfl
        · have e : (ByteArray.mk (Fsm.text s v).toArray).extract (4 * k) (4 * k + 3) = ⟨(((Fsm.text s v).take (4 * k + 3)).drop (4 * k)).toArray⟩ := by
            apply ByteArray.ext; apply Array.toList_inj.1
            simp [ByteArray.data_extract, List.extract, List.drop_take]
          rw [e, ← hact k hk]
          exact action_any _ W
    · rw [Fsm.step_out _ _ (fun h => hs ⟨h.1, h.2.1⟩)]
      exact ref_state s v hv hs w
  · rw [Fsm.step_out _ _ (fun h => hv h.2.2)]
    exact ref_none s v hv w
end Go.Proofs.YtokkecbnbojlnaaDoor.U
