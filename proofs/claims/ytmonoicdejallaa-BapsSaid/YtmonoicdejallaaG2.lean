/-
  The walk of the law of any datagram as bytes, any bytes as one.
-/
import Derived.Test.YtmonoicdejallaaZ9
import Derived.Test.YtmonoicdejallaaLendO
import Derived.Test.YtmonoicdejallaaKeptO
import Derived.Test.YtmonoicdejallaaSpoilO
namespace Go.Proofs.Ytmonoicdejallaa.Z
open Go.RowKit
/-- What a datagram whose options were lent answers. -/
def Lent (c i a : Int) (A : ByteArray) (E : Int) (va X : Value) (W : World) : Prop := ∀ W' : World, Below W.heap.size W W' →
  (Calls Try.prog 8 #[.agg #[.int .i64 c, .int .i64 i, .int .i64 a, X]] W' fun e w' => e = .returned (.tuple #[.string A, .int .i64 E]) ∧ Below W'.heap.size W' w') ∧
  Calls Try.prog 14 #[X, va] W' fun e w' => e = .returned (.bool true) ∧ Below W'.heap.size W' w'
set_option maxRecDepth 100000 in
set_option maxHeartbeats 6400000 in
theorem baps_walk (c i a cc ii aa E G : Int) (q0 : Option Addr) (cap0 n m : Nat) (s A : ByteArray) (L : List Opt.Op) (w : World) (hL : Hid (L.length = m ∧ L.length ≤ 4611686018427387904))
    (LEND : Hid (∀ W, Below w.heap.size w W → Calls Try.prog 7 #[.slice q0 n cap0] W fun e w' => ∃ g cap, e = .returned (.slice (some ⟨g, 0, none⟩) n cap) ∧ Below W.heap.size W w' ∧
      ∀ (p : Addr) (u : Value), w.heap.size ≤ p.block → p.block < W.heap.size → Lent c i a A E (.slice q0 n cap0) (.slice (some ⟨g, 0, none⟩) n cap) (w'.setCell p u)))
    (REF : Hid (∀ W, Below w.heap.size w W → Calls Try.prog 9 #[.agg #[.int .i64 c, .int .i64 i, .int .i64 a, .slice q0 n cap0]] W fun e w' => e = .returned (.tuple #[.string A, .int .i64 E]) ∧ Below W.heap.size W w'))
    (GET : Hid (∀ W, Calls Try.prog 10 #[.string s] W fun e w' => ∃ q cap, e = .returned (.tuple #[.agg #[.int .i64 cc, .int .i64 ii, .int .i64 aa, .slice q m cap], .int .i64 G]) ∧ OwnsO W w' (.slice q m cap) L))
    (UN : Hid (∀ W, Calls Try.prog 11 #[.string s] W fun e w' => ∃ q cap, e = .returned (.tuple #[.agg #[.int .i64 cc, .int .i64 ii, .int .i64 aa, .slice q m cap], .int .i64 G]) ∧ OwnsO W w' (.slice q m cap) L))
    (SM : Hid (∀ W ua ub, ReadsO W ua L → ReadsO W ub L → Calls Try.prog 13 #[.agg #[.int .i64 cc, .int .i64 ii, .int .i64 aa, ua], .agg #[.int .i64 cc, .int .i64 ii, .int .i64 aa, ub]] W fun e w' => e = .returned (.bool true) ∧ Below W.heap.size W w')) :
    Calls Try.prog 3 #[.agg #[.int .i64 c, .int .i64 i, .int .i64 a, .slice q0 n cap0], .string s] w fun e w' => e = .returned (.bool true) ∧ Below w.heap.size w w' := by
  have P0 := Lib.hid ((Box.new w [.int .i64 c, .int .i64 i, .int .i64 a, .slice q0 n cap0] 24).alloc (.cells #[.int .i64 c, .int .i64 i, .int .i64 a, .slice q0 n cap0] 24))
  have X0 := Lib.hid ((Box.new (w.alloc (.cells #[.int .i64 c, .int .i64 i, .int .i64 a, .slice q0 n cap0] 24)) [.int .i64 c, .int .i64 i, .int .i64 a, .slice q0 n cap0] 24).at (n := w.heap.size + 1) (by simp))
  have B0 := Lib.hid (((Below.refl w.heap.size w).alloc (Nat.le_refl _) (.cells #[.int .i64 c, .int .i64 i, .int .i64 a, .slice q0 n cap0] 24)).alloc (by simp) (.cells #[.int .i64 c, .int .i64 i, .int .i64 a, .slice q0 n cap0] 24))
  go_enter Try.func3, Try.ntmps3
  go_wp2_with fail
  refine (LEND.out _ B0.out).mono ?_
  rintro e w1 ⟨g, cap, rfl, hb1, hl1⟩
  have K1 := Lib.hid (hl1 ⟨w.heap.size + 1, 3, none⟩ (.slice (some ⟨g, 0, none⟩) n cap) (Nat.le_succ _) (by simp))
  have hz1 : w.heap.size + 1 < w1.heap.size := (by have := hb1.size; simp at this; omega)
  have P1 := Lib.hid ((P0.out.below hb1).setCell (p := ⟨w.heap.size + 1, 3, none⟩) (by simp) (.slice (some ⟨g, 0, none⟩) n cap))
  have X1 := X0.out.below hb1
  have m0 := X1 0 _ rfl
  have m1 := X1 1 _ rfl
  have m2 := X1 2 _ rfl
  have m3 := X1 3 _ rfl
  have x2 := Lib.hid (World.cell?_setCell_same w1 ⟨w.heap.size + 1, 3, none⟩ (.slice (some ⟨g, 0, none⟩) n cap) m3)
  have B1 := Lib.hid ((bel2 B0.out hb1).setCell (p := ⟨w.heap.size + 1, 3, none⟩) (Nat.le_succ _) (.slice (some ⟨g, 0, none⟩) n cap))
  have fz : ∀ o, w1.frozen? ⟨w.heap.size + 1, o, none⟩ = false := fun o => ((bcell hb1).2 _ _ (by simp)).trans (by simp [go_sem])
  clear hb1 hl1 X1
  go_wp2_with fail
  refine (K1.out _ (Below.refl _ _)).1.mono ?_
  rintro e w2 ⟨rfl, hb2⟩
  have Y2 := Lib.hid hb2
  have B2 := Lib.hid (bel2 B1.out hb2)
  have P2 := Lib.hid (P1.out.below hb2)
  have x3 := Lib.hid (cell_below x2.out hb2)
  clear hb2 m0 m1 m2 m3 fz
  have k0 := P2.out 0 _ rfl
  have k1 := P2.out 1 _ rfl
  have k2 := P2.out 2 _ rfl
  have k3 := P2.out 3 _ rfl
  go_wp2_with fail
  refine (REF.out _ B2.out).mono ?_
  rintro e w3 ⟨rfl, hb3⟩
  have Y3 := Lib.hid (bel2 Y2.out hb3)
  have B3 := Lib.hid (bel2 B2.out hb3)
  have P3 := Lib.hid (P2.out.below hb3)
  have x4 := Lib.hid (cell_below x3.out hb3)
  clear hb3 k0 k1 k2 k3
  go_wp2_with fail
  refine (GET.out _).mono ?_
  rintro e w4 ⟨q1, cap1, rfl, ho4⟩
  have H4 := Lib.hid (bel2 ho4.2 ((Below.refl w4.heap.size w4).alloc (Nat.le_refl _) (.cells #[.int .i64 cc, .int .i64 ii, .int .i64 aa, .slice q1 m cap1] 24)))
  have C4 := Lib.hid (ho4.below ((Below.refl w4.heap.size w4).alloc (Nat.le_refl _) (.cells #[.int .i64 cc, .int .i64 ii, .int .i64 aa, .slice q1 m cap1] 24)))
  have K4 : Hid (∀ k, (Value.slice q1 m cap1).ownBlock = some k → w3.heap.size ≤ k ∧ k < w4.heap.size) := Lib.hid fun k hk => ho4.1.lt k hk
  have U4 := Lib.hid (Box.new w4 [.int .i64 cc, .int .i64 ii, .int .i64 aa, .slice q1 m cap1] 24)
  clear ho4
  go_wp2_with fail
  refine (GET.out _).mono ?_
  rintro e w5 ⟨q2, cap2, rfl, ho5⟩
  have H5 := Lib.hid (bel2 ho5.2 ((Below.refl w5.heap.size w5).alloc (Nat.le_refl _) (.cells #[.int .i64 cc, .int .i64 ii, .int .i64 aa, .slice q2 m cap2] 24)))
  have D5 := Lib.hid (ho5.below ((Below.refl w5.heap.size w5).alloc (Nat.le_refl _) (.cells #[.int .i64 cc, .int .i64 ii, .int .i64 aa, .slice q2 m cap2] 24)))
  have U5 := Lib.hid (Box.new w5 [.int .i64 cc, .int .i64 ii, .int .i64 aa, .slice q2 m cap2] 24)
  have Z5 : Hid (w4.heap.size < w5.heap.size) := Lib.hid (by have := ho5.2.size; simp at this; omega)
  clear ho5
  go_wp2_with fail
  refine (UN.out _).mono ?_
  rintro e w6 ⟨q3, cap3, rfl, ho6⟩
  have H6 := Lib.hid (bel2 ho6.2 ((Below.refl w6.heap.size w6).alloc (Nat.le_refl _) (.cells #[.int .i64 cc, .int .i64 ii, .int .i64 aa, .slice q3 m cap3] 24)))
  have O6 := Lib.hid (ho6.below ((Below.refl w6.heap.size w6).alloc (Nat.le_refl _) (.cells #[.int .i64 cc, .int .i64 ii, .int .i64 aa, .slice q3 m cap3] 24)))
  have U6 := Lib.hid (Box.new w6 [.int .i64 cc, .int .i64 ii, .int .i64 aa, .slice q3 m cap3] 24)
  have Z6 : Hid (w5.heap.size < w6.heap.size) := Lib.hid (by have := ho6.2.size; simp at this; omega)
  have Y6 := Lib.hid (bel2 (bel2 (bel2 Y3.out H4.out) H5.out) ho6.2)
  have B6 := Lib.hid (bel2 (bel2 (bel2 B3.out H4.out) H5.out) ho6.2)
  have V6 := Lib.hid (((U4.out.below H5.out).below ho6.2))
  have T6 := Lib.hid (U5.out.below ho6.2)
  have p2 := (((P3.out.below H4.out).below H5.out).below ho6.2) 3 _ rfl
  have x2 := cell_below (cell_below (cell_below x4.out H4.out) H5.out) ho6.2
  have c0 := V6.out 0 _ rfl
  have c1 := V6.out 1 _ rfl
  have c2 := V6.out 2 _ rfl
  have c3 := V6.out 3 _ rfl
  have hz6 : w.heap.size + 1 < w6.heap.size := Nat.lt_of_lt_of_le (block_lt_of_cell x2) (Nat.le_refl _)
  have hz7 : w4.heap.size < w6.heap.size := Nat.lt_trans Z5.out Z6.out
  have hz8 : w.heap.size < w6.heap.size := by omega
  have x7 := Lib.hid (cell_below x2 ((Below.refl w6.heap.size w6).alloc (Nat.le_refl _) (.cells #[.int .i64 cc, .int .i64 ii, .int .i64 aa, .slice q3 m cap3] 24)))
  have p7 := Lib.hid (cell_below p2 ((Below.refl w6.heap.size w6).alloc (Nat.le_refl _) (.cells #[.int .i64 cc, .int .i64 ii, .int .i64 aa, .slice q3 m cap3] 24)))
  have Y7 := Lib.hid (bel2 Y6.out ((Below.refl w6.heap.size w6).alloc (Nat.le_refl _) (.cells #[.int .i64 cc, .int .i64 ii, .int .i64 aa, .slice q3 m cap3] 24)))
  have A6 := (Below.refl w6.heap.size w6).alloc (Nat.le_refl _) (.cells #[.int .i64 cc, .int .i64 ii, .int .i64 aa, .slice q3 m cap3] 24)
  have B7 := Lib.hid (bel2 B6.out A6)
  have C7 := Lib.hid ((((C4.out.below H5.out).below ho6.2).below A6))
  have D7 := Lib.hid ((D5.out.below ho6.2).below A6)
  have O7 := Lib.hid (ho6.below A6)
  have V7 := Lib.hid (V6.out.below A6)
  have T7 := Lib.hid (T6.out.below A6)
  clear ho6 A6
  have qE : (E != E) = false := by simp
  have qG : (G != G) = false := by simp
  go_wp2_with (first | (go_at_call 12; refine (num_any _ _).mono ?_; rintro e w9 ⟨rfl, rfl⟩) | (go_at_call 13; refine (SM.out _ _ _ C7.out.reads O7.out.reads).mono ?_; rintro e w8 ⟨rfl, hb8⟩; have Y8 := Lib.hid (bel2 Y7.out hb8); have B8 := Lib.hid (bel2 B7.out hb8); have C8 := Lib.hid (C7.out.below hb8); have D8 := Lib.hid (D7.out.below hb8); have O8 := Lib.hid (O7.out.below hb8); have V8 := Lib.hid (V7.out.below hb8); have T8 := Lib.hid (T7.out.below hb8); have U8 := Lib.hid (U6.out.below hb8); have x8 := cell_below x7.out hb8; have p8 := cell_below p7.out hb8; clear hb8) | (go_at_call 14; refine (K1.out _ Y8.out).2.mono ?_; rintro e wa ⟨rfl, hba⟩; have BA := Lib.hid (bel2 B8.out hba); have CA := Lib.hid (C8.out.below hba); have DA := Lib.hid (D8.out.below hba); have OA := Lib.hid (O8.out.below hba); have VA := Lib.hid (V8.out.below hba); have TA := Lib.hid (T8.out.below hba); have UA := Lib.hid (U8.out.below hba); have va2 := VA.out 3 _ rfl; clear hba))
  refine (spoilO_any _ L w3 wa CA.out hL.out.2).mono ?_
  rintro e wb ⟨rfl, hg⟩
  have BB := Lib.hid (BA.out.grown hg BA.out.size fun k hk => Nat.le_trans B3.out.size (K4.out k hk).1)
  have DB := Lib.hid (O.later (fun k hk => by have := (K4.out k hk).2; simp; omega) DA.out hg)
  have OB := Lib.hid (O.later (fun k hk => by have := (K4.out k hk).2; have := Z5.out; simp; omega) OA.out hg)
  have TB := TA.out.grown hg (fun e => by have := (K4.out _ e.symm).2; have := Z5.out; omega)
  have UB := UA.out.grown hg (fun e => by have := (K4.out _ e.symm).2; have := Z5.out; have := Z6.out; omega)
  have t0 := TB 0 _ rfl
  have t1 := TB 1 _ rfl
  have t2 := TB 2 _ rfl
  have t3 := TB 3 _ rfl
  have u0 := UB 0 _ rfl
  have u1 := UB 1 _ rfl
  have u2 := UB 2 _ rfl
  have u3 := UB 3 _ rfl
  clear hg va2 TB UB
  go_wp2_with (first | (go_at_call 13; refine (SM.out _ _ _ DB.out OB.out).mono ?_; rintro e wc ⟨rfl, hbc⟩; have BC := Lib.hid (bel2 BB.out hbc); clear hbc) | (go_at_call 16; refine (awake_any _).mono ?_; rintro e wd ⟨rfl, hbd⟩; have BD := Lib.hid (bel2 BC.out hbd); clear hbd))
  go_ret
  exact ⟨rfl, BD.out⟩
theorem walk_baps (c i a : Int) (v : Value) (os : List Opt.Op) (s : ByteArray) (w : World) (hr : ReadsO w v os) (hl : os.length * 24 ≤ 140737488351232) (ho : ∀ o ∈ os, o.2.length ≤ 140737488351232) (hs : s.size ≤ maxLen) :
    Calls Try.prog 3 #[.agg #[.int .i64 c, .int .i64 i, .int .i64 a, v], .string s] w fun e w' => e = .returned (.bool true) ∧ Below w.heap.size w w' := by
  have hl2 : os.length ≤ 4611686018427387904 := by omega
  obtain ⟨sl, rfl⟩ : ∃ sl : List UInt8, s = ⟨sl.toArray⟩ := ⟨s.data.toList, by simp⟩
  rw [sz] at hs
  have hs2 : sl.length ≤ 9223372036854775807 := by unfold maxLen at hs; omega
  have hcount := Bap.get_count sl
  obtain ⟨q0, cap0, b, off, rfl, _⟩ := hr.at
  refine baps_walk c i a (Bap.get sl).1.1 (Bap.get sl).1.2.1 (Bap.get sl).1.2.2.1 (Bap.code (c, i, a, os)) (Bap.get sl).2 q0 cap0 os.length (Bap.get sl).1.2.2.2.length _ ⟨(Bap.put (c, i, a, os)).toArray⟩ (Bap.get sl).1.2.2.2 w (Lib.hid ⟨rfl, by omega⟩)
    (Lib.hid fun W hb => ?_) (Lib.hid fun W hb => ?_) (Lib.hid fun W => ?_) (Lib.hid fun W => ?_) (Lib.hid fun W ua ub ha hb => ?_)
  · refine (lendO_any _ os W (hr.below hb) (by omega)).mono ?_
    rintro e w' ⟨g, cap, rfl, ho2, hcap⟩
    refine ⟨g, cap, rfl, ho2.2, fun p u hp1 hp2 W' hb' => ?_⟩
    have hw : Below w.heap.size w W' := bel2 ((bel2 hb ho2.2).setCell hp1 u) hb'
    have h2 : ReadsO W' (.slice (some ⟨g, 0, none⟩) (os.length + 2) cap) (os ++ [markO, markO]) := by
      refine (O.row_reads (ho2.1.kept (grown_cell w' p u) (.inr fun e => ?_))).below hb'
      have := (ho2.1.lt g rfl).1
      simp only [Value.ownBlock, Option.some.injEq] at e
      omega
    exact ⟨bput_any c i a _ os W' (O.reads_front h2) hl2, keptO_any _ os g cap W' hcap h2 (hr.below hw) hl2⟩
  · exact rbap_any c i a _ os W (hr.below hb) hl2 fun o h => by have := ho o h; omega
  · refine (bget_any sl W hs2).mono ?_
    rintro e w' ⟨u, rfl, ho2⟩
    obtain ⟨q, cap, rfl⟩ := ho2.form2
    exact ⟨q, cap, rfl, ho2⟩
  · refine (unbap_any sl W hs2).mono ?_
    rintro e w' ⟨u, rfl, ho2⟩
    obtain ⟨q, cap, rfl⟩ := ho2.form2
    exact ⟨q, cap, rfl, ho2⟩
  · exact sameb_any _ _ _ ua ub _ W ha hb (by omega)
end Go.Proofs.Ytmonoicdejallaa.Z
