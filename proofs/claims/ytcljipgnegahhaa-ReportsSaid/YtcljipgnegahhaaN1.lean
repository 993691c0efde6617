/-
  The walk of the law of any numbers as a report, any bytes as one.
-/
import Derived.Test.YtcljipgnegahhaaJ9
import Derived.Test.YtcljipgnegahhaaJ3
import Derived.Test.YtcljipgnegahhaaJ5
import Derived.Test.YtcljipgnegahhaaLaterI
namespace Go.Proofs.Ytcljipgnegahhaa.J
open Go.RowKit
/-- What a slice that was lent answers. -/
def Lent (A : ByteArray) (E : Int) (va X : Value) (W : World) : Prop := ∀ W' : World, Below W.heap.size W W' →
  (Calls Try.prog 7 #[X] W' fun e w' => e = .returned (.tuple #[.string A, .int .i64 E]) ∧ Below W'.heap.size W' w') ∧
  Calls Try.prog 13 #[X, va] W' fun e w' => e = .returned (.bool true) ∧ Below W'.heap.size W' w'
set_option maxRecDepth 100000 in
set_option maxHeartbeats 3200000 in
theorem reports_walk (p : Option Addr) (cap0 n m : Nat) (L : List Int) (s A : ByteArray) (E G : Int) (w : World) (hL : Hid (L.length = m ∧ L.length ≤ 4611686018427387904))
    (LEND : Hid (Calls Try.prog 6 #[.slice p n cap0] w fun e w' => ∃ g cap, e = .returned (.slice (some ⟨g, 0, none⟩) n cap) ∧ Below w.heap.size w w' ∧ Lent A E (.slice p n cap0) (.slice (some ⟨g, 0, none⟩) n cap) w'))
    (REF : Hid (∀ W, Below w.heap.size w W → Calls Try.prog 8 #[.slice p n cap0] W fun e w' => e = .returned (.tuple #[.string A, .int .i64 E]) ∧ Below W.heap.size W w'))
    (GET : Hid (∀ W, Calls Try.prog 9 #[.string s] W fun e w' => ∃ q cap, e = .returned (.tuple #[.slice q m cap, .int .i64 G]) ∧ OwnsI W w' (.slice q m cap) L))
    (UN : Hid (∀ W, Calls Try.prog 10 #[.string s] W fun e w' => ∃ q cap, e = .returned (.tuple #[.slice q m cap, .int .i64 G]) ∧ OwnsI W w' (.slice q m cap) L)) :
    Calls Try.prog 3 #[.slice p n cap0, .string s] w fun e w' => e = .returned (.bool true) ∧ Below w.heap.size w w' := by
  go_enter Try.func3, Try.ntmps3
  go_wp2_with fail
  refine LEND.out.mono ?_
  rintro e w1 ⟨g, cap, rfl, hb1, hl1⟩
  have B1 := Lib.hid hb1
  have X1 := Lib.hid hl1
  clear hb1 hl1
  go_wp2_with fail
  refine (X1.out w1 (Below.refl _ _)).1.mono ?_
  rintro e w2 ⟨rfl, hb2⟩
  have B2 := Lib.hid (bel2 B1.out hb2)
  have Y2 := Lib.hid hb2
  clear hb2
  go_wp2_with fail
  refine (REF.out _ B2.out).mono ?_
  rintro e w3 ⟨rfl, hb3⟩
  have B3 := Lib.hid (bel2 B2.out hb3)
  have Y3 := Lib.hid (bel2 Y2.out hb3)
  clear hb3
  go_wp2_with fail
  refine (GET.out _).mono ?_
  rintro e w4 ⟨q1, cap1, rfl, ho4⟩
  have B4 := Lib.hid (bel2 B3.out ho4.2)
  have Y4 := Lib.hid (bel2 Y3.out ho4.2)
  have C4 := Lib.hid ho4
  have K4 : Hid (∀ k, (Value.slice q1 m cap1).ownBlock = some k → w3.heap.size ≤ k ∧ k < w4.heap.size) := Lib.hid fun k hk => C4.out.1.lt k hk
  clear ho4
  go_wp2_with fail
  refine (GET.out _).mono ?_
  rintro e w5 ⟨q2, cap2, rfl, ho5⟩
  have B5 := Lib.hid (bel2 B4.out ho5.2)
  have Y5 := Lib.hid (bel2 Y4.out ho5.2)
  have Z5 := Lib.hid ho5.2
  have D5 := Lib.hid ho5
  clear ho5
  go_wp2_with fail
  refine (UN.out _).mono ?_
  rintro e w6 ⟨q3, cap3, rfl, ho6⟩
  have B6 := Lib.hid (bel2 B5.out ho6.2)
  have Y6 := Lib.hid (bel2 Y5.out ho6.2)
  have C6 := Lib.hid (C4.out.below (bel2 Z5.out ho6.2))
  have D6 := Lib.hid (D5.out.below ho6.2)
  have O6 := Lib.hid ho6
  clear ho6
  have qE : (E != E) = false := by simp
  have qG : (G != G) = false := by simp
  go_wp2_with (first | (go_at_call 11; refine (num_any _ _).mono ?_; rintro e w9 ⟨rfl, rfl⟩) | (refine (sameI_yes C6.out.reads O6.out.reads hL.out.2).mono ?_; rintro e w8 ⟨rfl, hb8⟩; have B8 := Lib.hid (bel2 B6.out hb8); have Y8 := Lib.hid (bel2 Y6.out hb8); have C8 := Lib.hid (C6.out.below hb8); have D8 := Lib.hid (D6.out.below hb8); have O8 := Lib.hid (O6.out.below hb8); clear hb8) | (refine (X1.out _ Y8.out).2.mono ?_; rintro e wa ⟨rfl, hba⟩; have BA := Lib.hid (bel2 B8.out hba); have CA := Lib.hid (C8.out.below hba); have DA := Lib.hid (D8.out.below hba); have OA := Lib.hid (O8.out.below hba); clear hba))
  refine (spoilI_any _ L w3 wa CA.out hL.out.2).mono ?_
  rintro e wb ⟨rfl, hg⟩
  have BB := Lib.hid (BA.out.grown hg BA.out.size fun k hk => Nat.le_trans B3.out.size (K4.out k hk).1)
  have DB := Lib.hid (laterI (fun k hk => (K4.out k hk).2) DA.out hg)
  have OB := Lib.hid (laterI (fun k hk => Nat.lt_of_lt_of_le (K4.out k hk).2 Z5.out.size) OA.out hg)
  clear hg
  go_wp2_with (first | (refine (sameI_yes DB.out OB.out hL.out.2).mono ?_; rintro e wc ⟨rfl, hbc⟩; have BC := Lib.hid (bel2 BB.out hbc); clear hbc) | (refine (awake_any _).mono ?_; rintro e wd ⟨rfl, hbd⟩; have BD := Lib.hid (bel2 BC.out hbd); clear hbd))
  go_ret
  exact ⟨rfl, BD.out⟩
theorem get_short (l : List UInt8) : (Rep.get l).1.length ≤ 12 := by
  unfold Rep.get
  split
  · rename_i h
    rw [Rep.nums_length 12 l (by omega)]
    exact Nat.le_refl _
  · exact Nat.zero_le _
theorem walk_reports (v : Value) (zs : List Int) (s : ByteArray) (w : World) (hr : ReadsI w v zs) (hl : zs.length * 8 ≤ 140737488351232) (_ : s.size ≤ 9223372036854775807) :
    Calls Try.prog 3 #[v, .string s] w fun e w' => e = .returned (.bool true) ∧ Below w.heap.size w w' := by
  have hl2 : zs.length ≤ 4611686018427387904 := by omega
  obtain ⟨l, rfl⟩ : ∃ l : List UInt8, s = ⟨l.toArray⟩ := ⟨s.data.toList, by simp⟩
  have hcount := get_short l
  obtain ⟨p, cap0, rfl⟩ := hr.form
  refine reports_walk p cap0 zs.length (Rep.get l).1.length (Rep.get l).1 ⟨l.toArray⟩ ⟨(Rep.put zs).toArray⟩ (Rep.code zs) (Rep.get l).2 w (Lib.hid ⟨rfl, by omega⟩) (Lib.hid ?_) (Lib.hid ?_) (Lib.hid ?_) (Lib.hid ?_)
  · refine (lendI_any _ zs w hr (by omega)).mono ?_
    rintro e w1 ⟨g, cap, rfl, ho, hcap⟩
    refine ⟨g, cap, rfl, ho.2, fun W hb => ?_⟩
    have hw : Below w.heap.size w W := bel2 ho.2 hb
    have h2 : ReadsI W (.slice (some ⟨g, 0, none⟩) (zs.length + 2) cap) (zs ++ [-7777, -8888]) := by
      have h := ho.below hb
      have h := OwnsI.reads (zs := zs ++ [-7777, -8888]) h
      exact h
    exact ⟨jput_any _ zs W (lentI_reads hcap h2).1, keptI_any _ zs g cap W hcap h2 (hr.below hw) hl2⟩
  · intro W hb
    have hw := hr.below hb
    cases h12 : decide (zs.length = 12)
    · have h := of_decide_eq_false h12
      have hg : Rep.good zs = false := by
        rw [Bool.eq_false_iff]
        intro hg
        exact h ((Rep.good_iff zs).1 hg).1
      obtain ⟨h1, h2⟩ := Rep.put_bad zs hg
      rw [h1, h2]
      exact ref_many _ zs W hw h
    · exact ref_walk _ zs W hw (of_decide_eq_true h12)
  · intro W
    refine (jget_any l W).mono ?_
    rintro e w' ⟨u, rfl, ho⟩
    obtain ⟨q, cap, rfl⟩ := ho.reads.form
    exact ⟨q, cap, rfl, ho⟩
  · intro W
    refine (un_any l W).mono ?_
    rintro e w' ⟨u, rfl, ho⟩
    obtain ⟨q, cap, rfl⟩ := ho.reads.form
    exact ⟨q, cap, rfl, ho⟩
end Go.Proofs.Ytcljipgnegahhaa.J
