/-
  The walk of the law that all falls due, once, in its row.
-/
import Derived.Test.YtjkkoojgdnoecaaYF
import Derived.Test.YtjkkoojgdnoecaaTAll
import Derived.Deep.QuietTactic
import Derived.BigQuiet
namespace Go.Proofs.Ytjkkoojgdnoecaa
open Go.RowKit
theorem infoBool : (Try.prog.info? 4).map (fun i => (i.zero, i.size, i.bytes)) = some (some (.bool false), 1, 1) := by kernel_rfl
def cellsB (l : List Bool) : List Value := l.map .bool
theorem cellsB_set (l : List Bool) (k : Nat) (z : Bool) : cellsB (l.set k z) = (cellsB l).set k (.bool z) := by simp [cellsB, List.map_set]
theorem cellsB_at (l : List Bool) (k : Nat) (b : Bool) (h : l[k]? = some b) : (cellsB l)[k]? = some (.bool b) := by simp [cellsB, h]
theorem cellsI_get (l : List Int) (k : Nat) (b : Int) (h : l[k]? = some b) : (cellsI l)[k]? = some (.int .i64 b) := by simp [cellsI, h]
theorem make_bools (k : Nat) (h : k ≤ 100000) (W : World) : (Instr.makeSlice 47 (.int .i64 (k : Int)) (.int .i64 (k : Int))).run Try.prog W = .ok (.slice (some ⟨W.heap.size, 0, none⟩) k k) (W.alloc (.cells (cellsB (List.replicate k false)).toArray 4)) := by
  have hi := infoBool
  cases hq : Try.prog.info? 4 with
  | none => rw [hq] at hi; cases hi
  | some i =>
    rw [hq] at hi
    simp only [Option.map_some, Option.some.injEq, Prod.mk.injEq] at hi
    obtain ⟨hz, hs, hb⟩ := hi
    have := run_make (P := Try.prog) W 47 4 i (.bool false) Try.underlying47 hq hz .i64 .i64 k k (by omega) (by omega) (by rw [hb]; omega) (by omega)
    rw [hs] at this
    simp only [Int.toNat_natCast, Nat.mul_one, Value.cells] at this
    have e : madeCells #[Value.bool false] k = (cellsB (List.replicate k false)).toArray := by
      apply Array.toList_inj.1
      apply List.ext_getElem
      · simp [cellsB, madeCells]
      · intro i h1 h2
        simp [madeCells, cellsB, Nat.mod_one]
    rw [e] at this
    exact this
theorem boolI_index (b n cap k : Nat) (hk : k < n) (W : World) : (Instr.indexAt 47 (.slice (some ⟨b, 0, none⟩) n cap) (.int .i64 (k : Int))).run Try.prog W = .ok (.pointer (some ⟨b, k, none⟩)) W := by
  have hs : (sizeOf (Try.prog.elem 47)).run Try.prog W = .ok 1 W := Try.sizeOf4 W
  have e := run_indexAt_slice (P := Try.prog) W 47 ⟨b, 0, none⟩ n cap .i64 (k : Int) Try.underlying47
  rw [if_pos (by omega), hs] at e
  simp only [Result.andThen, Int.toNat_natCast] at e
  rw [e, Nat.mul_one, add_at, Nat.zero_add]
theorem intI_index0 (b n cap k : Nat) (hk : k < n) (W : World) : (Instr.indexAt 37 (.slice (some ⟨b, 0, none⟩) n cap) (.int .i64 (k : Int))).run Try.prog W = .ok (.pointer (some ⟨b, k, none⟩)) W := by
  have h := intI_index b 0 n cap k hk W
  rwa [Nat.zero_add] at h
end Go.Proofs.Ytjkkoojgdnoecaa
namespace Go.Proofs.Ytjkkoojgdnoecaa.Y
open Go.RowKit
/-- A law that began in 'w' holds a machine and two tables that it made itself. -/
structure All (w : World) (B : Nat) (v : Value) (L H : Nat) (W : World) (S : List Tim.T) (la : List Int) (hs : List Bool) : Prop where
  tm : In w B v W S
  la : Blk L W (cellsI la)
  hs : Blk H W (cellsB hs)
  lo : w.heap.size ≤ L ∧ L < W.heap.size ∧ w.heap.size ≤ H ∧ H < W.heap.size
  off : L ≠ B ∧ H ≠ B ∧ v.ownBlock ≠ some L ∧ v.ownBlock ≠ some H ∧ L ≠ H
theorem All.move {w W W' : World} {B L H : Nat} {v v' : Value} {S S' : List Tim.T} {la : List Int} {hs : List Bool} (h : All w B v L H W S la hs) (h1 : In w B v' W' S') (m : Mv B v v' W W') : All w B v' L H W' S' la hs := by
  obtain ⟨o1, o2, o3, o4, o5⟩ := h.off
  obtain ⟨l1, l2, l3, l4⟩ := h.lo
  refine ⟨h1, h.la.same (m.kept L l2 o1 o3), h.hs.same (m.kept H l4 o2 o4), ⟨l1, Nat.lt_of_lt_of_le l2 m.size, l3, Nat.lt_of_lt_of_le l4 m.size⟩, o1, o2, fun e => ?_, fun e => ?_, o5⟩
  · rcases m.row L e with e | e
    · exact o3 e
    · omega
  · rcases m.row H e with e | e
    · exact o4 e
    · omega
theorem All.below {w W W' : World} {B L H : Nat} {v : Value} {S : List Tim.T} {la : List Int} {hs : List Bool} (h : All w B v L H W S la hs) (hb : Below W.heap.size W W') : All w B v L H W' S la hs :=
  h.move (h.tm.below hb) (Mv.of_below hb B v)
theorem In.set {w W : World} {B : Nat} {v : Value} {S : List Tim.T} (h : In w B v W S) {p : Addr} (u : Value) (h1 : p.block ≠ B) (h2 : v.ownBlock ≠ some p.block) (h3 : w.heap.size ≤ p.block) : In w B v (W.setCell p u) S :=
  ⟨Below.setCell h.bel h3 u, h.tm.grown (blk_grown W p u) (fun e => h1 (Option.some.inj e).symm) (fun g hg e => h2 (by rw [hg, e])), h.lo⟩
/-- Both tables are written. -/
theorem All.write {w W : World} {B L H : Nat} {v : Value} {S : List Tim.T} {la : List Int} {hs : List Bool} (h : All w B v L H W S la hs) (k : Nat) (t : Int) (b : Bool) :
    All w B v L H ((W.setCell ⟨L, k, none⟩ (.int .i64 t)).setCell ⟨H, k, none⟩ (.bool b)) S (la.set k t) (hs.set k b) := by
  obtain ⟨o1, o2, o3, o4, o5⟩ := h.off
  obtain ⟨l1, l2, l3, l4⟩ := h.lo
  refine ⟨(h.tm.set _ o1 o3 l1).set _ o2 o4 l3, ?_, ?_, ⟨l1, by simpa using l2, l3, by simpa using l4⟩, h.off⟩
  · rw [cellsI_set]
    exact (h.la.set k _).setOther (fun e => o5 e.symm) _
  · rw [cellsB_set]
    exact (h.hs.setOther (fun e => o5 e) _).set k _
theorem back_two (j : Nat) (h : j < 100) : IntKind.i64.wrap (j : Int) = (j : Int) := IntWalk.i64_in _ (by omega)
theorem all_new {w w1 : World} {B : Nat} {v : Value} (h : In w B v w1 []) :
    All w B v w1.heap.size (w1.heap.size + 1) ((w1.alloc (.cells (cellsI (List.replicate 64 0)).toArray 3)).alloc (.cells (cellsB (List.replicate 64 false)).toArray 4)) [] (List.replicate 64 0) (List.replicate 64 false) := by
  have b1 := (Below.refl w1.heap.size w1).alloc (Nat.le_refl _) (.cells (cellsI (List.replicate 64 0)).toArray 3)
  have b2 := (Below.refl (w1.alloc (.cells (cellsI (List.replicate 64 0)).toArray 3)).heap.size _).alloc (Nat.le_refl _) (.cells (cellsB (List.replicate 64 false)).toArray 4)
  have hz := h.bel.size
  have hB := h.tm.lt
  have x1 : Blk w1.heap.size (w1.alloc (.cells (cellsI (List.replicate 64 0)).toArray 3)) (cellsI (List.replicate 64 0)) := Blk.new w1 _ _
  have x2 : Blk (w1.heap.size + 1) _ (cellsB (List.replicate 64 false)) := (Blk.new (w1.alloc (.cells (cellsI (List.replicate 64 0)).toArray 3)) (cellsB (List.replicate 64 false)) 4).at (by simp)
  refine ⟨(h.below b1).below b2, Blk.below (c := .int .i64 0) (cs := cellsI (List.replicate 63 0)) x1 b2, x2, ⟨hz, by simp; omega, by omega, by simp⟩, by omega, by omega, fun e => ?_, fun e => ?_, by omega⟩
  · have := (h.tm.row _ e).2; omega
  · have := (h.tm.row _ e).2; omega
set_option maxRecDepth 100000 in
set_option maxHeartbeats 6400000 in
theorem walk_timerAll (va : Value) (zs : List Int) (vb : Value) (ts : List Int) (w : World) (hr : ReadsI w va zs) (hl : zs.length * 8 ≤ 140737488351232) (hs : ReadsI w vb ts) (hk : ts.length * 8 ≤ 140737488351232) :
    Calls Try.prog 4 #[va, vb] w fun e w' => e = .returned (.bool true) ∧ Below w.heap.size w w' := by
  obtain ⟨p0, cap0, b0, off0, rfl, _, _, hi0, hc0⟩ := hr.at
  obtain ⟨p1, cap1, b1, off1, rfl, _, _, hi1, hc1⟩ := hs.at
  have HI0 := Lib.hid hi0
  have HC0 := Lib.hid hc0
  have HI1 := Lib.hid hi1
  have HC1 := Lib.hid hc1
  clear hi0 hc0 hi1 hc1 hr hs
  have M1 := fun W => make_ints 64 (by decide) W
  have M2 := fun W => make_bools 64 (by decide) W
  rw [show ((64 : Nat) : Int) = 64 from rfl] at M1 M2
  go_enter Try.func4, Try.ntmps4
  go_wp2_with fail
  refine (awake_any _).mono ?_
  rintro e wa ⟨rfl, hba⟩
  have BA := Lib.hid hba
  clear hba
  go_wp2_with fail
  refine (t_new w wa BA.out).mono ?_
  rintro e w1 ⟨B, v, rfl, h1, _, _⟩
  have A1 := Lib.hid (all_new h1)
  clear h1
  go_wp2_with fail
  clear M1 M2
  obtain ⟨H, hH⟩ : ∃ H, w1.heap.size + 1 = H := ⟨_, rfl⟩
  simp only [hH] at A1 ⊢
  obtain ⟨L, hL⟩ : ∃ L, w1.heap.size = L := ⟨_, rfl⟩
  simp only [hL] at A1 ⊢
  go_loopw [8, 9, 10, 11] (fun i _ _ _ wr => ∃ (n : Nat) (v : Value) (S : List Tim.T) (la : List Int) (hs : List Bool), n ≤ zs.length ∧ n ≤ ts.length ∧ n ≤ 100 ∧ i = .int .i64 n ∧ All w B v L H wr S la hs ∧ Tim.Tab S la hs) (fun i _ _ _ _ => 100 - (intOf i).toNat)
  case atStart => exact ⟨0, v, [], _, _, by omega, by omega, by omega, rfl, A1.out, Tim.tab_nil⟩
  case round =>
    obtain ⟨n, v, S, la, hs, hk1, hk2, hk3, rfl, ha, htab⟩ := hrel
    have HA := Lib.hid ha
    have HT := Lib.hid htab
    clear ha htab
    by_cases hlt : n < zs.length ∧ n < ts.length ∧ n < 100
    · obtain ⟨l1, l2, l3⟩ := hlt
      have hi0 := HI0.out n l1
      have c0 := HC0.out n l1
      have hi1 := HI1.out n l2
      have c1 := HC1.out n l2
      obtain ⟨k, d1, dk⟩ := low_63 zs[n]
      obtain ⟨t, d2, dt⟩ := low_1023 ts[n]
      generalize zs[n] = z at *
      generalize ts[n] = s at *
      obtain ⟨o8, ho8⟩ : ∃ o8, o8 = off0 + n := ⟨_, rfl⟩
      obtain ⟨o9, ho9⟩ : ∃ o9, o9 = off1 + n := ⟨_, rfl⟩
      rw [← ho8] at hi0 c0
      rw [← ho9] at hi1 c1
      clear ho8 ho9
      rw [← HA.out.tm.bel.cell (block_lt_of_cell c0)] at c0
      rw [← HA.out.tm.bel.cell (block_lt_of_cell c1)] at c1
      obtain ⟨S', hS, hT'⟩ := Tim.tab_set HT.out HA.out.tm.tm.ok k t dk dt
      have HT2 := Lib.hid hT'
      have HSS := Lib.hid hS
      clear hT' hS
      have q1 : decide ((n : Int) < (zs.length : Int)) = true := decide_eq_true (by omega)
      have q2 : decide ((n : Int) < (ts.length : Int)) = true := decide_eq_true (by omega)
      have q3 : decide ((n : Int) < 100) = true := decide_eq_true (by omega)
      go_wp2_with fail
      go_quiet (fail)
      have HA0 := Lib.hid (HA.out.below (below_drewN (Below.refl _ wr) nq))
      obtain ⟨wq, hwq⟩ : ∃ wq, wq = wr.drewN nq := ⟨_, rfl⟩
      rw [← hwq] at HA0 ⊢
      clear hwq c0 c1
      have HS := Lib.hid (t_set HA0.out.tm HSS.out)
      go_wp2_with fail
      refine HS.out.mono ?_
      rintro e w3 ⟨rfl, v3, h3, m3⟩
      have A3 := Lib.hid (HA0.out.move h3 m3)
      have A4 := Lib.hid (A3.out.write k t true)
      obtain ⟨y, hy⟩ : ∃ y, la[k]? = some y := ⟨_, List.getElem?_eq_getElem (by rw [HT.out.ll]; exact dk)⟩
      obtain ⟨g, hg⟩ : ∃ g, hs[k]? = some g := ⟨_, List.getElem?_eq_getElem (by rw [HT.out.hl]; exact dk)⟩
      have cL := A3.out.la.cell k _ (cellsI_get la k y hy)
      have fL := A3.out.la.2
      have x2 := A3.out.hs.setOther (p := ⟨L, k, none⟩) (fun e => A3.out.off.2.2.2.2 e) (.int .i64 (t : Int))
      have cH := x2.cell k _ (cellsB_at hs k g hg)
      have fH := x2.2
      have iL := fun W => intI_index0 L 64 64 k dk W
      have iH := fun W => boolI_index H 64 64 k dk W
      clear h3 m3 HS x2 hy hg
      go_wp2_with (go_at_call 10; refine (num_any _ _).mono ?_; rintro e w9 ⟨rfl, rfl⟩)
      go_roundw
      case rel => exact ⟨n + 1, v3, S', _, _, by omega, by omega, by omega, by go_num, A4.out, HT2.out⟩
      case measure => simp [intOf]; omega
    · have hend : (n : Int) = (zs.length : Int) ∨ ((n : Int) < (zs.length : Int) ∧ (n : Int) = (ts.length : Int)) ∨ ((n : Int) < (zs.length : Int) ∧ (n : Int) < (ts.length : Int) ∧ (n : Int) = 100) := by omega
      clear hlt hk1 hk2 hk3 HI0 HC0 HI1 HC1
      have HD := Lib.hid (t_due HA.out.tm (Tim.tab_due HT.out))
      have HP := Lib.hid (Tim.tab_pair HT.out HA.out.tm.tm.ok)
      have HCNT : Hid (hs.count true = (S.map (·.1)).length) := Lib.hid (by rw [List.length_map]; exact HT.out.cnt)
      have hds : (S.map (·.1)).length ≤ 64 := by rw [List.length_map, ← HT.out.cnt, ← HT.out.hl]; exact List.count_le_length
      generalize S.map (·.1) = ds at *
      rcases hend with h | ⟨h1, h⟩ | ⟨h1, h2, h⟩
      all_goals
        go_wp2_with fail
        refine HD.out.mono ?_
        rintro e w5 ⟨p5, cap5, v5, rfl, h5, k5, m5⟩
        have A5 := Lib.hid (HA.out.move h5 m5)
        obtain ⟨p6, cap6, b6, off6, hv6, _, _, hi6, hc6⟩ := k5.reads.at
        simp only [Value.slice.injEq] at hv6
        obtain ⟨rfl, _, rfl⟩ := hv6
        have HI6 := Lib.hid hi6
        have HC6 := Lib.hid hc6
        clear h5 k5 m5 hi6 hc6 HD
        go_wp2_with fail
        go_loopw [13, 14] (fun s u wr => ∃ m : Nat, m ≤ 64 ∧ s = .int .i64 ((hs.take m).count true : Nat) ∧ u = .int .i64 m ∧ Below w5.heap.size w5 wr) (fun _ u _ => 64 - (intOf u).toNat)
        case atStart => exact ⟨0, by omega, rfl, rfl, Below.refl _ _⟩
        case round =>
          obtain ⟨m, hm, rfl, rfl, hb⟩ := hrel
          have HB := Lib.hid hb
          clear hb
          by_cases hlt : m < 64
          · obtain ⟨g, hg⟩ : ∃ g, hs[m]? = some g := ⟨_, List.getElem?_eq_getElem (by rw [HT.out.hl]; exact hlt)⟩
            have hst := Tim.count_step hs m g hg
            have hle : (hs.take m).count true ≤ m := Nat.le_trans List.count_le_length (by rw [List.length_take]; omega)
            have c7 := (A5.out.below HB.out).hs.cell m _ (cellsB_at hs m g hg)
            have i7 := fun W => boolI_index H 64 64 m hlt W
            clear hg
            generalize (hs.take m).count true = c at *
            cases g
            · go_wp2_with fail
              go_roundw
              case rel => exact ⟨m + 1, by omega, by rw [hst]; go_num, by go_num, HB.out⟩
              case measure => simp [intOf]; omega
            · go_wp2_with fail
              go_roundw
              case rel => exact ⟨m + 1, by omega, by rw [hst]; go_num, by go_num, HB.out⟩
              case measure => simp [intOf]; omega
          · obtain rfl : m = 64 := by omega
            have e64 : hs.take 64 = hs := List.take_of_length_le (by rw [HT.out.hl]; exact Nat.le_refl _)
            rw [e64, HCNT.out]
            clear e64 hlt hm HT
            simp only [show ((64 : Nat) : Int) = 64 from rfl]
            go_wp2_with fail
            go_loopw [15, 16, 17] (fun i _ _ wr => ∃ j : Nat, (j + 1 ≤ ds.length ∨ j = 0) ∧ i = .int .i64 ((j : Int) + 1) ∧ Below w5.heap.size w5 wr) (fun i _ _ _ => ds.length - (intOf i).toNat)
            case atStart => exact ⟨0, by omega, rfl, HB.out⟩
            case round =>
              clear HB
              obtain ⟨j, hj, rfl, hb⟩ := hrel
              have HB := Lib.hid hb
              clear hb
              by_cases hlt : j + 1 < ds.length
              · obtain ⟨a, b, t, u, e1, e2, ha, hb, x1, x2, ho⟩ := HP.out j hlt
                have i6 := HI6.out j (by omega)
                have i7 := HI6.out (j + 1) hlt
                have c6 := HC6.out j (by omega)
                have c7 := HC6.out (j + 1) hlt
                rw [List.getElem?_eq_getElem (by omega)] at e1
                rw [List.getElem?_eq_getElem hlt] at e2
                rw [Option.some.inj e1] at c6
                rw [Option.some.inj e2] at c7
                rw [show ((j + 1 : Nat) : Int) = (j : Int) + 1 from rfl] at i7
                obtain ⟨o8, ho8⟩ : ∃ o8, o8 = off6 + j := ⟨_, rfl⟩
                obtain ⟨o9, ho9⟩ : ∃ o9, o9 = off6 + (j + 1) := ⟨_, rfl⟩
                rw [← ho8] at i6 c6
                rw [← ho9] at i7 c7
                clear ho8 ho9 e1 e2
                rw [← HB.out.cell (block_lt_of_cell c6)] at c6
                rw [← HB.out.cell (block_lt_of_cell c7)] at c7
                have ia := fun W => intI_index0 L 64 64 a ha W
                have ib := fun W => intI_index0 L 64 64 b hb W
                have hj9 : j < 100 := by omega
                have q0 : decide ((j : Int) + 1 < (ds.length : Int)) = true := decide_eq_true (by omega)
                have q1 : decide ((a : Int) < 0) = false := decide_eq_false (by omega)
                have q2 : decide ((b : Int) < 0) = false := decide_eq_false (by omega)
                have q3 : decide ((63 : Int) < (a : Int)) = false := decide_eq_false (by omega)
                have q4 : decide ((63 : Int) < (b : Int)) = false := decide_eq_false (by omega)
                have q5 : decide (u < t) = false := decide_eq_false (by omega)
                have x1 := Lib.hid x1
                have x2 := Lib.hid x2
                rcases ho with ho | ⟨rfl, ho⟩
                · have q6 : decide (t = u) = false := decide_eq_false (by omega)
                  have q8 : (t == u) = false := beq_eq_false_iff_ne.2 (by omega)
                  have q9 : ((t : Int) == (u : Int)) = false := beq_eq_false_iff_ne.2 (by omega)
                  have e10 := back_two j hj9
                  go_wp2_with fail
                  go_quiet (fail)
                  have HB0 := Lib.hid (below_drewN HB.out nq)
                  obtain ⟨wp, hwp⟩ : ∃ wp, wp = wr.drewN nq := ⟨_, rfl⟩
                  rw [← hwp] at HB0 ⊢
                  clear hwp c6 c7
                  have AB := A5.out.below HB0.out
                  have ka := AB.la.cell a _ (cellsI_get la a t x1.out)
                  have kb := AB.la.cell b _ (cellsI_get la b u x2.out)
                  clear AB
                  go_wp2_with fail
                  go_quiet (fail)
                  have HB1 := Lib.hid (below_drewN HB0.out nq)
                  obtain ⟨wq, hwq⟩ : ∃ wq, wq = wp.drewN nq := ⟨_, rfl⟩
                  rw [← hwq] at HB1 ⊢
                  clear hwq ka kb
                  go_wp2_with fail
                  go_roundw
                  case rel => exact ⟨j + 1, by omega, by go_num, HB1.out⟩
                  case measure => simp [intOf]; omega
                · have q7 : decide (b ≤ a) = false := decide_eq_false (by omega)
                  have e10 := back_two j hj9
                  go_wp2_with fail
                  go_quiet (fail)
                  have HB0 := Lib.hid (below_drewN HB.out nq)
                  obtain ⟨wp, hwp⟩ : ∃ wp, wp = wr.drewN nq := ⟨_, rfl⟩
                  rw [← hwp] at HB0 ⊢
                  clear hwp c6 c7
                  have AB := A5.out.below HB0.out
                  have ka := AB.la.cell a _ (cellsI_get la a t x1.out)
                  have kb := AB.la.cell b _ (cellsI_get la b t x2.out)
                  clear AB
                  go_wp2_with fail
                  go_quiet (fail)
                  have HB1 := Lib.hid (below_drewN HB0.out nq)
                  obtain ⟨wq, hwq⟩ : ∃ wq, wq = wp.drewN nq := ⟨_, rfl⟩
                  rw [← hwq] at HB1 ⊢
                  clear hwq ka kb
                  go_wp2_with fail
                  go_roundw
                  case rel => exact ⟨j + 1, by omega, by go_num, HB1.out⟩
                  case measure => simp [intOf]; omega
              · have q0 : decide ((j : Int) + 1 < (ds.length : Int)) = false := decide_eq_false (by omega)
                have I6 := A5.out.tm.below HB.out
                have HL6 := Lib.hid (t_len I6 (n := 0) rfl)
                have HD6 := Lib.hid (t_due I6 (now := 5000) (S' := []) (ids := []) rfl)
                clear I6
                go_wp2_with (first | (go_at_call 18; refine HL6.out.mono ?_; rintro e w6 ⟨rfl, rfl⟩) | (go_at_call 14; refine HD6.out.mono ?_; rintro e w7 ⟨p7, cap7, v7, rfl, h7, _, _⟩; have H7 := Lib.hid h7; clear h7))
                go_ret
                exact ⟨rfl, H7.out.bel⟩
end Go.Proofs.Ytjkkoojgdnoecaa.Y
