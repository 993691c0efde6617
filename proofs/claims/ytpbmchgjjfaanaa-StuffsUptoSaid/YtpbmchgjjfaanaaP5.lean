/-
  The walk of the law of all: any bytes stuffed, undone, split.
-/
import Derived.Test.YtpbmchgjjfaanaaV9
namespace Go.Proofs.Ytpbmchgjjfaanaa
open Go.RowKit
theorem same_any_yes {va vb : Value} {la : List (List UInt8)} {W : World} (ha : Reads W va la) (hb : Reads W vb la) (hla : la.length ≤ 1073741824) :
    Calls Try.prog 16 #[va, vb] W fun e w' => e = .returned (.bool true) ∧ Below W.heap.size W w' := same_yes va vb la W ha hb hla
theorem own_reads {W : World} {b : Nat} {v : Value} {ls : List (List UInt8)} (h : W.ownsRow b 9 1 v ls.length (txts ls)) : Reads W v ls := by
  have hc := fun g hg => h.cells (g := g) hg
  rcases h.2 with ⟨rfl, h0⟩ | ⟨g, cap, cur, rfl, _⟩
  · obtain rfl : ls = [] := List.length_eq_zero_iff.1 h0
    exact ⟨none, 0, fun _ => ⟨0, 0, none⟩, rfl, fun k hk => absurd hk (by simp), fun k hk => absurd hk (by simp)⟩
  · exact reads_of_cells W _ cap ls (hc g rfl)
/-- A row stays while a cell of another block is written. -/
theorem set_kept {W : World} {b : Nat} {e : TypeId} {v : Value} {n : Nat} {xs : List Value} (h : W.ownsRow b e 1 v n xs) {g : Nat} (hg : v.ownBlock = some g → False) (k : Nat) (u : Value) : (W.setCell ⟨g, k, none⟩ u).ownsRow b e 1 v n xs :=
  h.kept (row := some g) ⟨rfl, rfl, rfl, by simp [World.setCell], fun j _ hj => Below.heap_setCell _ _ _ _ (fun e => hj (by simp [e]))⟩ (.inr hg)
set_option maxHeartbeats 800000 in
theorem walk_stuffs (s : ByteArray) (z : Int) (w : World) (hs : s.size ≤ 1048576) (_hz : (Lit.int .i64 z).wf = true) :
    Calls Try.prog 3 #[.string s, .int .i64 z] w fun e w' => e = .returned (.bool true) ∧ Below w.heap.size w w' := by
  have C1 := Lib.hid fun w => get_any s w (by omega)
  have C2 := Lib.hid fun w => unstuff_any s w (by omega)
  have C3 := Lib.hid fun w => split_any s w (by omega)
  have C4 := Lib.hid fun w => rsplit_any s w (by omega)
  have C5 := Lib.hid fun w => put_any s z w (by omega)
  have C6 := Lib.hid fun w => stuff_any s z w (by omega)
  have hn : (Stf.split s.data.toList).1.length ≤ 1073741824 := by
    have := Stf.srun_count s.data.toList
    simp at this
    show (Stf.srun s.data.toList).1.length ≤ _
    omega
  unfold SplitPost at C3 C4
  generalize Stf.get s.data.toList = g at *
  generalize Stf.split s.data.toList = f at *
  generalize Stf.put z s.data.toList = p at *
  obtain ⟨gs, gn⟩ := g
  obtain ⟨fs, rest⟩ := f
  have q1 : (p == p) = true := by simp
  have q2 : (gs == gs) = true := by simp
  have q3 : (rest == rest) = true := by simp
  go_enter Try.func3, Try.ntmps3
  go_wp2_with fail
  refine (C1.out _).mono ?_
  rintro e w1 ⟨rfl, hb1⟩
  have B1 := Lib.hid hb1
  clear hb1
  go_wp2_with fail
  refine (C2.out _).mono ?_
  rintro e w2 ⟨rfl, hb2⟩
  have B2 := Lib.hid (bel2 B1.out hb2)
  clear hb2
  go_wp2_with fail
  refine (C3.out _).mono ?_
  rintro e w3 ⟨v3, rfl, ho3⟩
  have B3 := Lib.hid (bel2 B2.out ho3.2)
  have O3 := Lib.hid ho3
  clear ho3
  go_wp2_with fail
  refine (C3.out _).mono ?_
  rintro e w4 ⟨v4, rfl, ho4⟩
  have B4 := Lib.hid (bel2 B3.out ho4.2)
  have O34 := Lib.hid (O3.out.below ho4.2)
  have O4 := Lib.hid ho4
  clear ho4
  go_wp2_with fail
  refine (C4.out _).mono ?_
  rintro e w5 ⟨v5, rfl, ho5⟩
  have B5 := Lib.hid (bel2 B4.out ho5.2)
  have O35 := Lib.hid (O34.out.below ho5.2)
  have O45 := Lib.hid (O4.out.below ho5.2)
  have O5 := Lib.hid ho5
  clear ho5
  go_wp2_with fail
  refine (C5.out _).mono ?_
  rintro e w6 ⟨rfl, hb6⟩
  have B6 := Lib.hid (bel2 B5.out hb6)
  have O36 := Lib.hid (O35.out.below hb6)
  have O46 := Lib.hid (O45.out.below hb6)
  have O56 := Lib.hid (O5.out.below hb6)
  clear hb6
  go_wp2_with fail
  refine (C6.out _).mono ?_
  rintro e w7 ⟨rfl, hb7⟩
  have B7 := Lib.hid (bel2 B6.out hb7)
  have O37 := Lib.hid (O36.out.below hb7)
  have O47 := Lib.hid (O46.out.below hb7)
  have O57 := Lib.hid (O56.out.below hb7)
  clear hb7
  go_wp2_with (go_at_call 15; refine (num_any _ _).mono ?_; rintro e w9 ⟨rfl, rfl⟩)
  refine (same_any_yes O37.out.reads O57.out.reads hn).mono ?_
  rintro e w8 ⟨rfl, hb8⟩
  have B8 := Lib.hid (bel2 B7.out hb8)
  have O38 := Lib.hid (O37.out.below hb8)
  have O48 := Lib.hid (O47.out.below hb8)
  have O58 := Lib.hid (O57.out.below hb8)
  clear hb8 O37 O47 O57 O36 O46 O56 O35 O45 O34
  have R4 := Lib.hid O48.out.1
  have R5 := Lib.hid O58.out.1
  rcases O38.out.1.2 with ⟨rfl, h0⟩ | ⟨g, cap, cur, rfl, hbg, hg, hnc, hcm, hcs, _⟩
  · obtain rfl : fs = [] := List.length_eq_zero_iff.1 h0
    clear h0
    go_wp2_with fail
    go_loop [15] (fun i => i = .int .i64 0) (fun _ => 0)
    case atStart => rfl
    case round =>
      subst hrel
      go_wp2_with fail
      refine (same_any_yes (own_reads R4.out) (own_reads R5.out) hn).mono ?_
      rintro e w9 ⟨rfl, hb9⟩
      have B9 := Lib.hid (bel2 B8.out hb9)
      clear hb9
      go_wp2_with fail
      refine (awake_any _).mono ?_
      rintro e w10 ⟨rfl, hb10⟩
      have B10 := Lib.hid (bel2 B9.out hb10)
      clear hb10
      go_wp2_with fail
      go_ret
      exact ⟨rfl, B10.out⟩
  · have hcs1 : cur.size = cap := by simpa using hcs
    have HG := Lib.hid hg
    have HS := Lib.hid hcs1
    have hgl : g < w3.heap.size := (O3.out.1.lt g rfl).2
    have hw3 : w.heap.size ≤ g := Nat.le_trans B2.out.size hbg
    have hw4 : w3.heap.size ≤ w4.heap.size := O4.out.2.size
    have hfn : fs.length ≤ 9223372036854775807 := by omega
    clear hg hcs1 hcs
    go_wp2_with fail
    go_loopw [15] (fun i wr => ∃ k : Nat, k ≤ fs.length ∧ i = .int .i64 k ∧ (∃ cu : Array Value, wr.heap[g]? = some (.cells cu 9 (0, 0)) ∧ cu.size = cap) ∧ wr.ownsRow w3.heap.size 9 1 v4 fs.length (txts fs) ∧ wr.ownsRow w4.heap.size 9 1 v5 fs.length (txts fs) ∧ Below w.heap.size w wr) (fun i _ => fs.length - (intOf i).toNat)
    case atStart => exact ⟨0, by omega, rfl, ⟨cur, HG.out, HS.out⟩, R4.out, R5.out, B8.out⟩
    case round =>
      obtain ⟨k, hk, rfl, ⟨cu, hcu, hsz⟩, hr4, hr5, hb⟩ := hrel
      have HC := Lib.hid hcu
      have H4 := Lib.hid hr4
      have H5 := Lib.hid hr5
      have HB := Lib.hid hb
      have HZ := Lib.hid hsz
      clear hcu hr4 hr5 hb hsz
      by_cases hlt : k < fs.length
      · obtain ⟨u, hu⟩ : ∃ u, cu[k]? = some u := ⟨cu[k]'(by rw [HZ.out]; omega), Array.getElem?_eq_getElem _⟩
        have hc : wr.cell? ⟨g, k, none⟩ = some u := by rw [Lib.cell_of_heap HC.out]; exact hu
        have hf : wr.frozen? ⟨g, k, none⟩ = false := Lib.frozen_of_heap HC.out k
        clear hu
        go_wp2_with fail
        go_roundw
        case rel =>
          refine ⟨k + 1, by omega, by go_num, ⟨_, Lib.heap_setCell_same HC.out _, by simpa using HZ.out⟩, set_kept H4.out (fun h => ?_) k _, set_kept H5.out (fun h => ?_) k _, HB.out.setCell hw3 _⟩
          · have := (H4.out.lt g h).1; omega
          · have := (H5.out.lt g h).1; omega
        case measure => simp [intOf]; omega
      · obtain rfl : k = fs.length := by omega
        go_wp2_with fail
        refine (same_any_yes (own_reads H4.out) (own_reads H5.out) hn).mono ?_
        rintro e w9 ⟨rfl, hb9⟩
        have B9 := Lib.hid (bel2 HB.out hb9)
        clear hb9
        go_wp2_with fail
        refine (awake_any _).mono ?_
        rintro e w10 ⟨rfl, hb10⟩
        have B10 := Lib.hid (bel2 B9.out hb10)
        clear hb10
        go_wp2_with fail
        go_ret
        exact ⟨rfl, B10.out⟩
end Go.Proofs.Ytpbmchgjjfaanaa
