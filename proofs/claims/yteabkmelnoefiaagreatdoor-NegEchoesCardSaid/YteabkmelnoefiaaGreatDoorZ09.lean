/-
  Contract of the program's own step.
-/
import Derived.Test.YteabkmelnoefiaaGreatDoorZ08
namespace Go.Proofs.YteabkmelnoefiaaGreatDoor.Fsm
theorem told_parts (s v : Nat) (hs : s < 10) (hv : v < 16) (h : text s v ≠ [45]) : ∃ (t : Nat) (L : List Int) (b : UInt8), t ≤ 9 ∧ L.length ≤ 3 ∧ place s v = ((t : Int), L, 0) ∧ b.toNat = 48 + t ∧ (text s v).length ≤ 100 ∧
    ((Lib.cut (text s v) [47]).2.2 = false ∧ text s v = [b] ∧ L = [] ∨ (Lib.cut (text s v) [47]).2.2 = true ∧ (Lib.cut (text s v) [47]).2.1 = [b] ∧ (Lib.cut (text s v) [47]).1.length ≤ 100 ∧
      (parts (Lib.cut (text s v) [47]).1).map (fun x => Lib.idxOfS names x) = L ∧ Lib.countB ⟨(Lib.cut (text s v) [47]).1.toArray⟩ comma + 1 = L.length) := by
  have := all_told s v hs hv
  unfold told at this
  rw [if_neg h] at this
  obtain ⟨t, L, e, he⟩ : ∃ t L e, place s v = (t, L, e) := ⟨_, _, _, rfl⟩
  rw [he] at this ⊢
  simp only [Bool.and_eq_true, beq_iff_eq, decide_eq_true_eq] at this
  obtain ⟨⟨⟨⟨⟨h1, h2⟩, h3⟩, h4⟩, h5⟩, h6⟩ := this
  subst h1
  refine ⟨t.toNat, L, UInt8.ofNat (48 + t.toNat), by omega, h4, by rw [Int.toNat_of_nonneg h2], by simp; omega, h5, ?_⟩
  cases hc : (Lib.cut (text s v) [47]).2.2 with
  | false =>
    rw [hc] at h6
    simp only [Bool.false_eq_true, if_false, Bool.and_eq_true, beq_iff_eq] at h6
    exact .inl ⟨rfl, h6.1, h6.2⟩
  | true =>
    rw [hc] at h6
    simp only [if_true, Bool.and_eq_true, beq_iff_eq, decide_eq_true_eq] at h6
    exact .inr ⟨rfl, h6.1.1.1, h6.1.1.2, h6.1.2, h6.2⟩
end Go.Proofs.YteabkmelnoefiaaGreatDoor.Fsm
namespace Go.Proofs.YteabkmelnoefiaaGreatDoor.U
open Go.RowKit
set_option maxRecDepth 100000
theorem read_place (s v t : Nat) (L : List Int) (hs : s < 10) (hv : v < 16) (h : Fsm.text s v ≠ [45]) (hp : Fsm.place s v = ((t : Int), L, 0)) (w : World) (T : Tab w) :
    Calls Tryz.prog 94 #[.string ⟨(Fsm.text s v).toArray⟩] w fun e w' => ∃ p cap, e = .returned (.agg #[.bool true, .int .i64 (t : Int), .slice p L.length cap]) ∧ OwnsI w w' (.slice p L.length cap) L := by
  obtain ⟨t', L', b, h9, h3, hp', hb, hl, hw⟩ := Fsm.told_parts s v hs hv h
  rw [hp'] at hp
  simp only [Prod.mk.injEq, Int.natCast_inj, and_true] at hp
  obtain ⟨rfl, rfl⟩ := hp
  have hc := cut_ok (Fsm.text s v) hl
  have q1 : ((ByteArray.mk (Fsm.text s v).toArray).toList == [45]) = false := by simpa using h
  rcases hw with ⟨e1, e2, rfl⟩ | ⟨e1, e2, e3, e4, e5⟩
  · rw [e1] at hc
    refine (read_plain _ _ _ t' w T q1 hc (Lib.hid fun W => digit_any b t' hb h9 _ (by rw [e2]) W)).mono ?_
    rintro e w' ⟨rfl, hB⟩
    exact ⟨none, 0, rfl, World.ownsRow_nil _ _ _ _, hB⟩
  · rw [e1, e2] at hc
    have hlen : (Fsm.parts (Lib.cut (Fsm.text s v) [47]).1).length = L'.length := by rw [← e4, List.length_map]
    refine read_acts _ _ _ t' L' (Fsm.parts (Lib.cut (Fsm.text s v) [47]).1) hlen h3 w T q1 hc (Lib.hid fun W => digit_any b t' hb h9 _ rfl W) (Lib.hid fun W TW => ?_) (Lib.hid fun k hk W => ?_)
    · obtain ⟨m, hm⟩ := TW.most
      have hS := Tryz.strings_Split ⟨(Lib.cut (Fsm.text s v) [47]).1.toArray⟩ ⟨#[44]⟩ m W (by rw [sz]; omega) hm (by decide)
      have e6 : Lib.countB ⟨(Lib.cut (Fsm.text s v) [47]).1.toArray⟩ ⟨#[44]⟩ + 1 = L'.length := e5
      rw [e6] at hS
      exact hS
    · have hx : L'[k] = Lib.idxOfS Fsm.names ((Fsm.parts (Lib.cut (Fsm.text s v) [47]).1).getD k ByteArray.empty) := by
        have hk2 : k < (Fsm.parts (Lib.cut (Fsm.text s v) [47]).1).length := by rw [hlen]; exact hk
        simp [← e4, List.getD, hk2]
      rw [hx]
      exact paction_any _ W
set_option maxHeartbeats 800000 in
theorem step_none (s v : Int) (h : ¬(0 ≤ s ∧ s ≤ 9 ∧ 0 ≤ v ∧ v ≤ 15)) (w : World) : Calls Tryz.prog 74 #[.int .i64 s, .int .i64 v] w (StepPost (0, [], 1000) w) := by
  have hI := isCell_any s v
  rw [decide_eq_false h] at hI
  have HI := Lib.hid hI
  clear hI h
  go_enter Tryz.func74, Tryz.ntmps74
  go_wp2_with fail
  refine (HI.out _).mono ?_
  rintro e w1 ⟨rfl, rfl⟩
  go_wp2_with fail
  go_ret3
  exact post_nil (Below.refl _ _)
set_option maxHeartbeats 1600000 in
theorem step_never (s v : Nat) (hs : s < 10) (hv : v < 16) (x : ByteArray) (w : World) (T : Tab w)
    (WRD : Hid (∀ W, Tab W → Calls Tryz.prog 95 #[.int .i64 (v : Int)] W fun e w' => ∃ g, e = .returned (.slice (some ⟨g, 0, none⟩) 10 10) ∧ Below W.heap.size W w' ∧ w'.cell? ⟨g, s, none⟩ = some (.string x)))
    (RD : Hid (∀ W, Tab W → Calls Tryz.prog 94 #[.string x] W fun e w' => e = .returned (.agg #[.bool false, .int .i64 0, .slice none 0 0]) ∧ Below W.heap.size W w')) :
    Calls Tryz.prog 74 #[.int .i64 (s : Int), .int .i64 (v : Int)] w (StepPost (0, [], 1001) w) := by
  have hI := isCell_any (s : Int) (v : Int)
  rw [decide_eq_true (show 0 ≤ (s : Int) ∧ (s : Int) ≤ 9 ∧ 0 ≤ (v : Int) ∧ (v : Int) ≤ 15 by omega)] at hI
  have HI := Lib.hid hI
  clear hI
  go_enter Tryz.func74, Tryz.ntmps74
  go_wp2_with fail
  refine (HI.out _).mono ?_
  rintro e w1 ⟨rfl, rfl⟩
  go_wp2_with fail
  refine (WRD.out _ T).mono ?_
  rintro e w2 ⟨g, rfl, hb2, c0⟩
  have B2 := Lib.hid hb2
  have hi := fun W => txt_index g 10 10 s hs W
  clear hb2
  go_wp2_with fail
  refine (RD.out _ (T.below B2.out)).mono ?_
  rintro e w3 ⟨rfl, hb3⟩
  have B3 := Lib.hid (bel2 B2.out hb3)
  have B4 := Lib.hid (bel2 B3.out ((Below.refl w3.heap.size w3).alloc (Nat.le_refl _) (.cells #[.bool false, .int .i64 0, .slice none 0 0] 163)))
  clear hb3 c0 hi
  go_wp2_with fail
  go_ret3
  exact post_nil B4.out
set_option maxHeartbeats 1600000 in
theorem step_place (s v t : Nat) (L : List Int) (hs : s < 10) (hv : v < 16) (x : ByteArray) (w : World) (T : Tab w)
    (WRD : Hid (∀ W, Tab W → Calls Tryz.prog 95 #[.int .i64 (v : Int)] W fun e w' => ∃ g, e = .returned (.slice (some ⟨g, 0, none⟩) 10 10) ∧ Below W.heap.size W w' ∧ w'.cell? ⟨g, s, none⟩ = some (.string x)))
    (RD : Hid (∀ W, Tab W → Calls Tryz.prog 94 #[.string x] W fun e w' => ∃ p cap, e = .returned (.agg #[.bool true, .int .i64 (t : Int), .slice p L.length cap]) ∧ OwnsI W w' (.slice p L.length cap) L)) :
    Calls Tryz.prog 74 #[.int .i64 (s : Int), .int .i64 (v : Int)] w (StepPost ((t : Int), L, 0) w) := by
  have hI := isCell_any (s : Int) (v : Int)
  rw [decide_eq_true (show 0 ≤ (s : Int) ∧ (s : Int) ≤ 9 ∧ 0 ≤ (v : Int) ∧ (v : Int) ≤ 15 by omega)] at hI
  have HI := Lib.hid hI
  clear hI
  go_enter Tryz.func74, Tryz.ntmps74
  go_wp2_with fail
  refine (HI.out _).mono ?_
  rintro e w1 ⟨rfl, rfl⟩
  go_wp2_with fail
  refine (WRD.out _ T).mono ?_
  rintro e w2 ⟨g, rfl, hb2, c0⟩
  have B2 := Lib.hid hb2
  have hi := fun W => txt_index g 10 10 s hs W
  clear hb2
  go_wp2_with fail
  refine (RD.out _ (T.below B2.out)).mono ?_
  rintro e w3 ⟨p, cap, rfl, ho⟩
  have HO := Lib.hid ((ho.below ((Below.refl w3.heap.size w3).alloc (Nat.le_refl _) (.cells #[.bool true, .int .i64 (t : Int), .slice p L.length cap] 163))).base B2.out)
  clear ho c0 hi
  go_wp2_with fail
  go_quiet (fail)
  go_wp2_with fail
  go_ret3
  exact ⟨p, cap, rfl, HO.out.below (below_drewN (Below.refl _ _) _)⟩
/-- The contract of the program's own step, in every world that comes behind one in which the library's variables lie as they were laid. -/
theorem step_any {w0 : World} (T0 : Tab w0) : StepOk w0 := Lib.hid fun s v W hW => by
  have T := T0.below hW
  by_cases h : 0 ≤ s ∧ s ≤ 9 ∧ 0 ≤ v ∧ v ≤ 15
  · obtain ⟨s, rfl⟩ : ∃ n : Nat, s = n := ⟨s.toNat, by omega⟩
    obtain ⟨v, rfl⟩ : ∃ n : Nat, v = n := ⟨v.toNat, by omega⟩
    have hs : s < 10 := by omega
    have hv : v < 16 := by omega
    rw [Fsm.step_in s v hs hv]
    have WRD : Hid (∀ W, Tab W → Calls Tryz.prog 95 #[.int .i64 (v : Int)] W fun e w' => ∃ g, e = .returned (.slice (some ⟨g, 0, none⟩) 10 10) ∧ Below W.heap.size W w' ∧ w'.cell? ⟨g, s, none⟩ = some (.string ⟨(Fsm.text s v).toArray⟩)) := Lib.hid fun W TW => by
      refine (words_any v hv W TW).mono ?_
      rintro e w1 ⟨g, rfl, h1, h2⟩
      exact ⟨g, rfl, h1, h2 s hs⟩
    by_cases ht : Fsm.text s v = [45]
    · rw [Fsm.place_never s v hs hv ht]
      rw [ht] at WRD
      exact step_never s v hs hv _ W T WRD (Lib.hid fun W _ => read_never W)
    · obtain ⟨t, L, _, _, _, hp, _⟩ := Fsm.told_parts s v hs hv ht
      rw [hp]
      exact step_place s v t L hs hv _ W T WRD (Lib.hid fun W TW => read_place s v t L hs hv ht hp W TW)
  · rw [Fsm.step_out s v h]
    exact step_none s v h W
end Go.Proofs.YteabkmelnoefiaaGreatDoor.U
