/-
  Contract of the program's own reading of a cell's text.
-/
import Derived.Test.YteabkmelnoefiaaGreatDoorZ07
import Derived.Test.YteabkmelnoefiaaGreatDoorZU0
import Derived.Test.YteabkmelnoefiaaGreatDoorZ06
import Derived.Deep.RegionLaw
import Derived.Deep.AppendLies
import Derived.Deep.Onto
namespace Go.Proofs.YteabkmelnoefiaaGreatDoor.U
open Go.RowKit
set_option maxRecDepth 100000
/-- What strings.Cut answers, as the walks take it. -/
abbrev CutOk (c x y : ByteArray) (f : Bool) : Prop := Hid (∀ W, Tab W → Calls Tryz.prog 105 #[.string c, .string { data := #[47] }] W fun e w' => e = .returned (.tuple #[.string x, .string y, .bool f]) ∧ Below W.heap.size W w')
theorem drewN_below (W : World) (n : Nat) : Below W.heap.size W (W.drewN n) := ⟨rfl, rfl, rfl, Nat.le_refl _, fun _ _ => rfl⟩
theorem cut_ok (l : List UInt8) (hl : l.length ≤ 100) : CutOk ⟨l.toArray⟩ ⟨(Lib.cut l [47]).1.toArray⟩ ⟨(Lib.cut l [47]).2.1.toArray⟩ (Lib.cut l [47]).2.2 := Lib.hid fun W T => by
  obtain ⟨m, hm⟩ := T.most
  refine (Tryz.strings_Cut ⟨l.toArray⟩ ⟨#[47]⟩ m W (by rw [sz]; omega) hm).mono ?_
  rintro e w' ⟨rfl, n, rfl⟩
  exact ⟨rfl, drewN_below W n⟩
set_option maxHeartbeats 400000 in
theorem read_never (w : World) : Calls Tryz.prog 94 #[.string ⟨#[45]⟩] w fun e w' => e = .returned (.agg #[.bool false, .int .i64 0, .slice none 0 0]) ∧ Below w.heap.size w w' := by
  have X := Lib.hid (Blk.new w [.bool false, .int .i64 0, .slice none 0 0] 163)
  have HB := Lib.hid ((Below.refl w.heap.size w).alloc (Nat.le_refl _) (.cells #[.bool false, .int .i64 0, .slice none 0 0] 163))
  have m0 := X.out.cell 0 _ rfl
  have m1 := X.out.cell 1 _ rfl
  have m2 := X.out.cell 2 _ rfl
  go_enter Tryz.func94, Tryz.ntmps94
  go_wp2_with fail
  refine bodyPost_ret (v := .agg #[.bool false, .int .i64 0, .slice none 0 0]) (by simp [results, Tryz.results94, go_sem, m0, m1, m2]) rfl ⟨rfl, ?_⟩
  exact HB.out
set_option maxHeartbeats 400000 in
theorem read_plain (c x y : ByteArray) (t : Nat) (w : World) (T : Tab w) (q1 : (c.toList == [45]) = false) (CUT : CutOk c x y false)
    (DIG : Hid (∀ W, Calls Tryz.prog 106 #[.string c] W fun e w' => e = .returned (.int .i64 (t : Int)) ∧ w' = W)) :
    Calls Tryz.prog 94 #[.string c] w fun e w' => e = .returned (.agg #[.bool true, .int .i64 (t : Int), .slice none 0 0]) ∧ Below w.heap.size w w' := by
  have X := Lib.hid (Blk.new w [.bool false, .int .i64 0, .slice none 0 0] 163)
  have B0 := Lib.hid ((Below.refl w.heap.size w).alloc (Nat.le_refl _) (.cells #[.bool false, .int .i64 0, .slice none 0 0] 163))
  go_enter Tryz.func94, Tryz.ntmps94
  go_wp2_with fail
  refine (CUT.out _ (T.below B0.out)).mono ?_
  rintro e w1 ⟨rfl, hb1⟩
  have X1 := Lib.hid (X.out.below hb1)
  have B1 := Lib.hid (bel2 B0.out hb1)
  have m0 := X1.out.cell 0 _ rfl
  have m1 := X1.out.cell 1 _ rfl
  have m2 := X1.out.cell 2 _ rfl
  have fz := X1.out.2
  clear hb1
  go_wp2_with fail
  refine (DIG.out _).mono ?_
  rintro e w2 ⟨rfl, rfl⟩
  go_wp2_with fail
  refine bodyPost_ret (v := .agg #[.bool true, .int .i64 (t : Int), .slice none 0 0]) (by simp [results, Tryz.results94, go_sem, m0, m1, m2]) rfl ⟨rfl, ?_⟩
  repeat (first | (with_reducible exact B1.out) | (refine Below.setCell ?_ ?_ _; rotate_left; (first | exact Nat.le_refl _ | exact Nat.le_succ _)))
theorem parts_cell (W : World) (P : List ByteArray) (k : Nat) (h : k < P.length) : (W.alloc (.cells (P.map Value.string).toArray 9)).cell? ⟨W.heap.size, k, none⟩ = some (.string (P.getD k ByteArray.empty)) := by
  have := new_cells W (P.map Value.string) 9 k (.string (P.getD k ByteArray.empty)) (by simp [List.getD, h])
  rwa [box_add] at this
set_option maxHeartbeats 1600000 in
theorem read_acts (c x y : ByteArray) (t : Nat) (L : List Int) (P : List ByteArray) (hP : P.length = L.length) (hL : L.length ≤ 3) (w : World) (T : Tab w) (q1 : (c.toList == [45]) = false) (CUT : CutOk c x y true)
    (DIG : Hid (∀ W, Calls Tryz.prog 106 #[.string y] W fun e w' => e = .returned (.int .i64 (t : Int)) ∧ w' = W))
    (SPL : Hid (∀ W, Tab W → Calls Tryz.prog 107 #[.string x, .string { data := #[44] }] W fun e w' => e = .returned (.slice (some ⟨W.heap.size, 0, none⟩) L.length L.length) ∧ w' = W.alloc (.cells (P.map Value.string).toArray 9)))
    (ACT : Hid (∀ k (h : k < L.length) W, Calls Tryz.prog 108 #[.string (P.getD k ByteArray.empty)] W fun e w' => e = .returned (.int .i64 L[k]) ∧ Below W.heap.size W w')) :
    Calls Tryz.prog 94 #[.string c] w fun e w' => ∃ p cap, e = .returned (.agg #[.bool true, .int .i64 (t : Int), .slice p L.length cap]) ∧ OwnsI w w' (.slice p L.length cap) L := by
  have X := Lib.hid (Blk.new w [.bool false, .int .i64 0, .slice none 0 0] 163)
  have B0 := Lib.hid ((Below.refl w.heap.size w).alloc (Nat.le_refl _) (.cells #[.bool false, .int .i64 0, .slice none 0 0] 163))
  go_enter Tryz.func94, Tryz.ntmps94
  go_wp2_with fail
  refine (CUT.out _ (T.below B0.out)).mono ?_
  rintro e w1 ⟨rfl, hb1⟩
  have X1 := Lib.hid (X.out.below hb1)
  have B1 := Lib.hid (bel2 B0.out hb1)
  have Z1 : Hid (w.heap.size < w1.heap.size) := Lib.hid X1.out.lt
  have Y1 := Lib.hid (Blk.new w1 [.bool true, .int .i64 (t : Int), .slice none 0 0] 163)
  have A1 := Lib.hid ((Below.refl w1.heap.size w1).alloc (Nat.le_refl _) (.cells #[.bool true, .int .i64 (t : Int), .slice none 0 0] 163))
  clear hb1
  go_wp2_with fail
  refine (DIG.out _).mono ?_
  rintro e w2 ⟨rfl, rfl⟩
  go_wp2_with fail
  refine (SPL.out _ (T.below (bel2 B1.out A1.out))).mono ?_
  rintro e w3 ⟨rfl, he3⟩
  have A2 := (Below.refl (w2.alloc (.cells #[.bool true, .int .i64 (t : Int), .slice none 0 0] 163)).heap.size _).alloc (Nat.le_refl _) (.cells (P.map Value.string).toArray 9)
  rw [← he3] at A2
  have S3 : Hid (w3.heap.size = w2.heap.size + 2) := Lib.hid (by rw [he3]; simp)
  have Y3 : Hid (Blk w2.heap.size w3 [.bool true, .int .i64 (t : Int), .slice none 0 0]) := Lib.hid (Y1.out.below A2)
  have X3 : Hid (Blk w.heap.size w3 [.bool false, .int .i64 0, .slice none 0 0]) := Lib.hid ((X1.out.below A1.out).below A2)
  have B3 : Hid (Below w.heap.size w w3) := Lib.hid (bel2 (bel2 B1.out A1.out) A2)
  have C3 : Hid (∀ j, j < L.length → w3.cell? ⟨w2.heap.size + 1, j, none⟩ = some (.string (P.getD j ByteArray.empty))) := Lib.hid fun j hj => by
    have h := parts_cell (w2.alloc (.cells #[.bool true, .int .i64 (t : Int), .slice none 0 0] 163)) P j (by omega)
    rw [← he3] at h
    simpa using h
  have e0 : (w2.alloc (.cells #[.bool true, .int .i64 (t : Int), .slice none 0 0] 163)).heap.size = w2.heap.size + 1 := by simp
  rw [e0]
  clear A2 he3 e0 X X1 Y1 A1 B0 B1 CUT SPL DIG
  have hg := Z1.out
  generalize w2.heap.size = g at *
  go_wp2_with fail
  go_loopw [8, 29] (fun _ i wr => ∃ (k : Nat) (p : Option Addr) (cap : Nat), k ≤ L.length ∧ i = .int .i64 (k : Int) ∧ Blk g wr [.bool true, .int .i64 (t : Int), .slice p k cap] ∧ Blk w.heap.size wr [.bool false, .int .i64 0, .slice none 0 0] ∧
    (∀ j, j < L.length → wr.cell? ⟨g + 1, j, none⟩ = some (.string (P.getD j ByteArray.empty))) ∧ wr.ownsRow (g + 2) 3 1 (.slice p k cap) k (cellsI (L.take k)) ∧ g + 2 ≤ wr.heap.size ∧ Below w.heap.size w wr) (fun _ i _ => L.length - (intOf i).toNat)
  case atStart => exact ⟨0, none, 0, by omega, rfl, Y3.out, X3.out, C3.out, World.ownsRow_nil _ _ _ _, by rw [S3.out]; exact Nat.le_refl _, B3.out⟩
  case round =>
    obtain ⟨k, p, cap, hk, rfl, hy, hx, hc, ho, hz, hb⟩ := hrel
    have HY := Lib.hid hy
    have HX := Lib.hid hx
    have HC := Lib.hid hc
    have HO := Lib.hid ho
    have HB := Lib.hid hb
    clear hy hx hc ho hb
    by_cases hlt : k < L.length
    · have hi := fun W => txt_index (g + 1) L.length L.length k hlt W
      have c0 := HC.out k hlt
      have hact := ACT.out k hlt
      have HS := Lib.hid (List.take_succ_eq_append_getElem hlt)
      have HN : Hid ((L.take k).length = k) := Lib.hid (by rw [List.length_take]; omega)
      generalize P.getD k ByteArray.empty = x at *
      generalize L[k] = z at *
      have HA := Lib.hid hact
      clear hact
      have k2 := HY.out.cell 2 _ rfl
      have hlen : ((L.take k).length + [z].length) * 8 ≤ 140737488355328 := by rw [HN.out]; simp; omega
      have ne1 := row_apart HO.out (show g < g + 2 by omega)
      have ne2 := row_apart HO.out (show w.heap.size < g + 2 by omega)
      have ne3 := row_apart HO.out (show g + 1 < g + 2 by omega)
      have HO2 : Hid (wr.ownsRow (g + 2) 3 1 (.slice p k cap) (L.take k).length (cellsI (L.take k))) := Lib.hid (by rw [HN.out]; exact HO.out)
      go_wp2_with fail
      go_region_law (first | (refine step_catR rfl _ _ rfl (g + 2) (L.take k) [z] HO5.out hz5 (by simp) HL5.out rfl rfl hlen ?_; intro v' w6 ho6 hg6; rw [HN.out] at ho6; simp only [List.length_singleton] at ho6; obtain ⟨p6, cap6, rfl⟩ := row_form ho6; have m2 := ((HY4.out.alloc _).grown hg6 ne1).cell 2 _ rfl; have fz := ((HY4.out.alloc _).grown hg6 ne1).2) | (go_simp; go_at_call 108; refine (HA.out _).mono ?_; rintro e w4 ⟨rfl, hb4⟩; have hb5 : Below wr.heap.size wr w4 := (by first | exact hb4 | exact bel2 (Below.refl _ wr).drew hb4); have HY4 := Lib.hid (HY.out.below hb5); have k4 := HY4.out.cell 2 _ rfl; have g4 : g < w4.heap.size := HY4.out.lt; have hA := (Below.refl w4.heap.size w4).alloc (Nat.le_refl _) (.cells #[.int .i64 z] 3); have HO5 := Lib.hid (row_below (row_below HO2.out hb5) hA); have HL5 := Lib.hid (readsI_lit w4 _ rfl [z] #[.int .i64 z] rfl); have hz5 := Nat.le_trans (Nat.le_trans hz hb5.size) hA.size))
      all_goals
        have gY := Lib.hid (((HY4.out.alloc _).grown hg6 ne1).set 2 (.slice p6 (k + 1) cap6))
        have gX := Lib.hid ((((HX.out.below hb5).alloc _).grown hg6 ne2).setOther (p := ⟨g, 2, none⟩) (by show g ≠ w.heap.size; omega) (.slice p6 (k + 1) cap6))
        have gC : Hid (∀ j, j < L.length → (w6.setCell ⟨g, 2, none⟩ (.slice p6 (k + 1) cap6)).cell? ⟨g + 1, j, none⟩ = some (.string (P.getD j ByteArray.empty))) := Lib.hid fun j hj =>
          cell_other (cell_grown (cell_below (cell_below (HC.out j hj) hb5) hA) hg6 ne3) (by show g ≠ g + 1; omega) _
        have gO : Hid ((w6.setCell ⟨g, 2, none⟩ (.slice p6 (k + 1) cap6)).ownsRow (g + 2) 3 1 (.slice p6 (k + 1) cap6) (k + 1) (cellsI (L.take (k + 1)))) := Lib.hid (by
          rw [HS.out]
          exact row_other ho6 (fun e => row_apart ho6 (show g < g + 2 by omega) e.symm) _)
        have gB : Hid (Below w.heap.size w (w6.setCell ⟨g, 2, none⟩ (.slice p6 (k + 1) cap6))) := Lib.hid (((bel2 (bel2 HB.out hb5) hA).grown hg6 (by have := (bel2 (bel2 HB.out hb5) hA).size; omega) (fun q hq => by have := (HO.out.lt q hq).1; omega)).setCell (by show w.heap.size ≤ g; omega) _)
        have gz : Hid (g + 2 ≤ (w6.setCell ⟨g, 2, none⟩ (.slice p6 (k + 1) cap6)).heap.size) := Lib.hid (by have := hg6.size; simp at hz5 this ⊢; omega)
        clear ho6 hg6 HY4 HO5 HL5 hb4 hb5 hA m2 fz hz5 HO2 k4 k2 c0 hi hlen ne1 ne2 ne3
        go_wp2_with fail
        go_roundw
        case rel => exact ⟨k + 1, p6, cap6, by omega, by go_num, gY.out, gX.out, gC.out, gO.out, gz.out, gB.out⟩
        case measure => simp [intOf]; omega
    · obtain rfl : k = L.length := by omega
      have k0 := HY.out.cell 0 _ rfl
      have k1 := HY.out.cell 1 _ rfl
      have k2 := HY.out.cell 2 _ rfl
      have m0 := HX.out.cell 0 _ rfl
      have m1 := HX.out.cell 1 _ rfl
      have m2 := HX.out.cell 2 _ rfl
      have fz := HX.out.2
      go_wp2_with fail
      refine bodyPost_ret (v := .agg #[.bool true, .int .i64 (t : Int), .slice p L.length cap]) (by simp [results, Tryz.results94, go_sem, m0, m1, m2]) rfl ⟨p, cap, rfl, ?_⟩
      have h1 := HO.out
      rw [List.take_length] at h1
      have ne := row_apart h1 (show w.heap.size < g + 2 by omega)
      refine ⟨row_other (row_other (row_other (h1.mono (by omega)) ?_ _) ?_ _) ?_ _, ?_⟩
      · exact fun e => ne e.symm
      · exact fun e => ne e.symm
      · exact fun e => ne e.symm
      · repeat (first | (with_reducible exact HB.out) | (refine Below.setCell ?_ ?_ _; rotate_left; (first | exact Nat.le_refl _ | exact Nat.le_succ _)))
end Go.Proofs.YteabkmelnoefiaaGreatDoor.U
