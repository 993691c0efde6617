/-
  Contract: the library's Equal at options.
  Packets in slices (a code, an id, options, data: four cells each): read, of the call's own, pushed behind.
  A box while other blocks are written.
  General: a slice of options of the call's own, while later blocks are written.
  General: a block of the call's own that holds these cells and may be written; what is written elsewhere leaves it as it is.
  General: a block of the call's own that holds these cells and may be written; what is written elsewhere leaves it as it is.
  A link (four numbers, a mark, a text) that comes in by value: opened.
-/
import Derived.Test.YteabkmelnoefiaaGreatDoorZ05
import Derived.Test.YteabkmelnoefiaaGreatDoorZ01
import Derived.Test.YteabkmelnoefiaaGreatDoorZ02
import Derived.Deep.QuietTactic
import Derived.BigQuiet
import Derived.Deep.WholeRow
import Derived.Laws.AppendOwn
import Derived.Deep.Onto
import Derived.Lib.SmallJoins
import Derived.KernelRfl
namespace Go.Proofs.YteabkmelnoefiaaGreatDoor
open Go.RowKit
set_option maxRecDepth 100000
set_option maxHeartbeats 400000 in
theorem equalO_any (va vb : Value) (la lb : List Opt.Op) (W : World) (ha : ReadsO W va la) (hb : ReadsO W vb lb) (hla : la.length ≤ 4611686018427387904) (hlb : lb.length ≤ 4611686018427387904) :
    Calls Tryz.prog 91 #[va, vb] W fun e w' => e = .returned (.bool (decide (la = lb))) ∧ Below W.heap.size W w' := by
  obtain ⟨p, cap, b, off, rfl, _, _, hi, hc⟩ := ha.at
  obtain ⟨q, cap2, b2, off2, rfl, _, _, hi2, hc2⟩ := hb.at
  have HI := Lib.hid hi
  have HC := Lib.hid hc
  have HI2 := Lib.hid hi2
  have HC2 := Lib.hid hc2
  clear hi hc hi2 hc2 ha hb
  by_cases hl : la.length = lb.length
  · have q1 : ((la.length : Int) != (lb.length : Int)) = false := by rw [bne_eq_false_iff_eq]; omega
    have HL := Lib.hid hl
    clear hl
    go_enter Tryz.func91, Tryz.ntmps91
    go_wp2_with fail
    go_loopw [13] (fun i wr => ∃ k : Nat, k ≤ la.length ∧ i = .int .i64 k ∧ la.take k = lb.take k ∧ Below W.heap.size W wr) (fun i _ => la.length - (intOf i).toNat)
    case atStart => exact ⟨0, by omega, rfl, rfl, Below.refl _ _⟩
    case round =>
      obtain ⟨k, hk, rfl, ht, hb⟩ := hrel
      have HT := Lib.hid ht
      have HB := Lib.hid hb
      clear ht hb
      by_cases hlt : k < la.length
      · have hlt2 : k < lb.length := by have := HL.out; omega
        have hi := HI.out k hlt
        have hi2 := HI2.out k hlt2
        obtain ⟨c0, c1⟩ := HC.out k hlt
        obtain ⟨d0, d1⟩ := HC2.out k hlt2
        rw [← HB.out.cell (block_lt_of_cell c0)] at c0
        rw [← HB.out.cell (block_lt_of_cell c1)] at c1
        rw [← HB.out.cell (block_lt_of_cell d0)] at d0
        rw [← HB.out.cell (block_lt_of_cell d1)] at d1
        have HS := Lib.hid (takeO_succ k hlt)
        have HS2 := Lib.hid (takeO_succ k hlt2)
        have HX : Hid (la = lb → la[k] = lb[k]) := Lib.hid (by rintro rfl; rfl)
        generalize la[k] = x at *
        generalize lb[k] = y at *
        obtain ⟨o8, ho8⟩ : ∃ o8, o8 = off + 2 * k := ⟨_, rfl⟩
        obtain ⟨o9, ho9⟩ : ∃ o9, o9 = off2 + 2 * k := ⟨_, rfl⟩
        rw [← ho8] at hi c0 c1
        rw [← ho9] at hi2 d0 d1
        clear ho8 ho9
        obtain ⟨z, d⟩ := x
        obtain ⟨z2, e⟩ := y
        dsimp only at c0 c1 d0 d1
        have hgu := guardO
        by_cases hxy : (z, d) = (z2, e)
        · obtain ⟨rfl, rfl⟩ := Prod.mk.inj hxy
          obtain ⟨k1, k2, _⟩ := eqO_yes z d
          go_wp2_with fail
          go_quiet (fail)
          obtain ⟨wq, hwq⟩ : ∃ wq, wq = wr.drewN nq := ⟨_, rfl⟩
          have HB1 := Lib.hid (HB.out.trans (hwq ▸ below_drewN (Below.refl _ _) nq))
          rw [← hwq]
          clear hwq c0 c1 d0 d1 k1 k2
          go_wp2_with fail
          go_roundw
          case rel => exact ⟨k + 1, by omega, by go_num, by rw [HS.out, HS2.out, HT.out], HB1.out⟩
          case measure => simp [intOf]; omega
        · obtain ⟨k1, k2, _⟩ := eqO_no z z2 d e hxy
          have HF : Hid (decide (la = lb) = false) := Lib.hid (decide_eq_false (fun e => hxy (HX.out e)))
          clear hxy
          go_wp2_with fail
          go_quiet (fail)
          obtain ⟨wq, hwq⟩ : ∃ wq, wq = wr.drewN nq := ⟨_, rfl⟩
          have HB1 := Lib.hid (HB.out.trans (hwq ▸ below_drewN (Below.refl _ _) nq))
          rw [← hwq]
          clear hwq c0 c1 d0 d1 k1 k2
          go_wp2_with fail
          go_ret
          exact ⟨ret_bool HF.out.symm, HB1.out⟩
      · obtain rfl : k = la.length := by omega
        have HF : Hid (decide (la = lb) = true) := by
          have h := HT.out
          rw [List.take_length, HL.out, List.take_length] at h
          exact Lib.hid (decide_eq_true h)
        go_wp2_with fail
        go_ret
        exact ⟨ret_bool HF.out.symm, HB.out⟩
  · have q1 : ((la.length : Int) != (lb.length : Int)) = true := by rw [bne_iff_ne]; omega
    have HF : Hid (decide (la = lb) = false) := Lib.hid (decide_eq_false (fun e => hl (by rw [e])))
    clear hl
    go_enter Tryz.func91, Tryz.ntmps91
    go_wp2_with fail
    go_ret
    exact ⟨ret_bool HF.out.symm, Below.refl _ _⟩
end Go.Proofs.YteabkmelnoefiaaGreatDoor
namespace Go.Proofs.YteabkmelnoefiaaGreatDoor
open Go.RowKit
theorem infoP : (Tryz.prog.info? 36).map (fun i => (i.zero, i.size, i.bytes)) = some (some (.agg #[.int .i64 0, .int .i64 0, .slice none 0 0, .string ⟨#[]⟩]), 4, 56) := by kernel_rfl
/-- A packet as it lies: its options as a slice. -/
abbrev Rk := Int × Int × Value × List UInt8
def pcs (r : Rk) : List Value := [.int .i64 r.1, .int .i64 r.2.1, r.2.2.1, .string ⟨r.2.2.2.toArray⟩]
def pkv (r : Rk) : Value := .agg (pcs r).toArray
def cellsP (rs : List Rk) : List Value := rs.flatMap pcs
theorem cellsP_append (l r : List Rk) : cellsP (l ++ r) = cellsP l ++ cellsP r := by simp [cellsP]
theorem cellsP_cons (f : Rk) (r : List Rk) : cellsP (f :: r) = pcs f ++ cellsP r := by simp [cellsP]
theorem cellsP_length (l : List Rk) : (cellsP l).length = l.length * 4 := by
  induction l with
  | nil => rfl
  | cons f r ih => rw [cellsP_cons]; simp [pcs]; omega
/-- A slice of options that stands by itself: it reads as them, it lies in blocks from 'n' on; its cells may be written. -/
structure Row (n : Nat) (W : World) (u : Value) (os : List Opt.Op) : Prop where
  row : W.ownsRow n 82 2 u os.length (cellsO os)
theorem Row.reads {n : Nat} {W : World} {u : Value} {os : List Opt.Op} (h : Row n W u os) : ReadsO W u os := by
  have hc := fun g hg => h.row.cells (g := g) hg
  rcases h.row.2 with ⟨rfl, h0⟩ | ⟨g, cap, cur, rfl, _, _, hn, _⟩
  · obtain rfl : os = [] := List.length_eq_zero_iff.1 h0
    exact reads_nil W
  · refine .inr ⟨g, 0, cap, rfl, hn, fun j u hj => ?_⟩
    have := hc g rfl j u hj
    rwa [add_lit] at this
theorem Row.one {n : Nat} {W : World} {u : Value} {os : List Opt.Op} (h : Row n W u os) : u.oneCell' = true := by
  rcases h.row.2 with ⟨rfl, _⟩ | ⟨_, _, _, rfl, _⟩ <;> rfl
theorem Row.form {n : Nat} {W : World} {u : Value} {os : List Opt.Op} (h : Row n W u os) : ∃ p cap, u = .slice p os.length cap := by
  rcases h.row.2 with ⟨rfl, h0⟩ | ⟨g, cap, cur, rfl, _⟩
  · exact ⟨none, 0, by rw [h0]⟩
  · exact ⟨_, cap, rfl⟩
theorem Row.nil (n : Nat) (W : World) : Row n W (.slice none 0 0) [] := ⟨World.ownsRow_nil _ _ _ _⟩
theorem Row.chg {n : Nat} {S : Nat → Prop} {W W' : World} {u : Value} {os : List Opt.Op} (h : Row n W u os) (k : Chg S W W') (hs : ∀ g, n ≤ g → ¬ S g) : Row n W' u os :=
  ⟨row_chg h.row k fun g hg => hs g (h.row.lt g hg).1⟩
theorem Row.below {n : Nat} {W W' : World} {u : Value} {os : List Opt.Op} (h : Row n W u os) (k : Below W.heap.size W W') : Row n W' u os := h.chg (S := fun _ => False) (Chg.of_below k) fun _ _ => id
theorem Row.mono {n m : Nat} {W : World} {u : Value} {os : List Opt.Op} (h : Row n W u os) (hm : m ≤ n) : Row m W u os := ⟨row_mono h.row hm⟩
theorem Row.of_owns {w W : World} {u : Value} {os : List Opt.Op} (h : OwnsO w W u os) : Row w.heap.size W u os := ⟨h.1⟩
/-- Packets as they lie, and as they read. -/
structure Same (n : Nat) (W : World) (r : Rk) (p : Ctl.Pk) : Prop where
  code : r.1 = p.1
  id : r.2.1 = p.2.1
  data : r.2.2.2 = p.2.2.2
  opts : Row n W r.2.2.1 p.2.2.1
inductive Sames (n : Nat) (W : World) : List Rk → List Ctl.Pk → Prop
  | nil : Sames n W [] []
  | cons {r p rs ps} : Same n W r p → Sames n W rs ps → Sames n W (r :: rs) (p :: ps)
theorem Same.chg {n : Nat} {S : Nat → Prop} {W W' : World} {r : Rk} {p : Ctl.Pk} (h : Same n W r p) (k : Chg S W W') (hs : ∀ g, n ≤ g → ¬ S g) : Same n W' r p := ⟨h.code, h.id, h.data, h.opts.chg k hs⟩
theorem Same.mono {n m : Nat} {W : World} {r : Rk} {p : Ctl.Pk} (h : Same n W r p) (hm : m ≤ n) : Same m W r p := ⟨h.code, h.id, h.data, h.opts.mono hm⟩
theorem Sames.chg {n : Nat} {S : Nat → Prop} {W W' : World} {rs : List Rk} {ps : List Ctl.Pk} (h : Sames n W rs ps) (k : Chg S W W') (hs : ∀ g, n ≤ g → ¬ S g) : Sames n W' rs ps := by
  induction h with
  | nil => exact .nil
  | cons h1 _ ih => exact .cons (h1.chg k hs) ih
theorem Sames.mono {n m : Nat} {W : World} {rs : List Rk} {ps : List Ctl.Pk} (h : Sames n W rs ps) (hm : m ≤ n) : Sames m W rs ps := by
  induction h with
  | nil => exact .nil
  | cons h1 _ ih => exact .cons (h1.mono hm) ih
theorem Sames.length {n : Nat} {W : World} {rs : List Rk} {ps : List Ctl.Pk} (h : Sames n W rs ps) : rs.length = ps.length := by
  induction h with
  | nil => rfl
  | cons _ _ ih => simp [ih]
theorem Sames.append {n : Nat} {W : World} {rs rs' : List Rk} {ps ps' : List Ctl.Pk} (h : Sames n W rs ps) (k : Sames n W rs' ps') : Sames n W (rs ++ rs') (ps ++ ps') := by
  induction h with
  | nil => exact k
  | cons h1 _ ih => exact .cons h1 ih
theorem Sames.one {n : Nat} {W : World} {rs : List Rk} {ps : List Ctl.Pk} (h : Sames n W rs ps) : ∀ u ∈ cellsP rs, u.oneCell' = true := by
  induction h with
  | nil => intro u hu; simp [cellsP] at hu
  | @cons r p rs ps h1 _ ih =>
    intro u hu
    rw [cellsP_cons, List.mem_append] at hu
    rcases hu with hu | hu
    · simp only [pcs, List.mem_cons, List.not_mem_nil, or_false] at hu
      rcases hu with rfl | rfl | rfl | rfl
      · rfl
      · rfl
      · exact h1.opts.one
      · rfl
    · exact ih u hu
/-- 'v' is a slice of packets that stands by itself, in blocks from 'n' on; nothing said of other blocks. -/
structure Packs (n : Nat) (W : World) (v : Value) (ps : List Ctl.Pk) : Prop where
  out : ∃ rs, W.ownsRow n 36 4 v ps.length (cellsP rs) ∧ Sames n W rs ps
theorem Packs.nil (n : Nat) (W : World) : Packs n W (.slice none 0 0) [] := ⟨[], World.ownsRow_nil _ _ _ _, .nil⟩
theorem Packs.chg {n : Nat} {S : Nat → Prop} {W W' : World} {v : Value} {ps : List Ctl.Pk} (h : Packs n W v ps) (k : Chg S W W') (hs : ∀ g, n ≤ g → ¬ S g) : Packs n W' v ps := by
  obtain ⟨rs, h1, h2⟩ := h.out
  exact ⟨rs, row_chg h1 k fun g hg => hs g (h1.lt g hg).1, h2.chg k hs⟩
theorem Packs.below {n : Nat} {W W' : World} {v : Value} {ps : List Ctl.Pk} (h : Packs n W v ps) (k : Below W.heap.size W W') : Packs n W' v ps := h.chg (S := fun _ => False) (Chg.of_below k) fun _ _ => id
theorem Packs.mono {n m : Nat} {W : World} {v : Value} {ps : List Ctl.Pk} (h : Packs n W v ps) (hm : m ≤ n) : Packs m W v ps := by
  obtain ⟨rs, h1, h2⟩ := h.out
  exact ⟨rs, row_mono h1 hm, h2.mono hm⟩
theorem Packs.form {n : Nat} {W : World} {v : Value} {ps : List Ctl.Pk} (h : Packs n W v ps) : ∃ p cap, v = .slice p ps.length cap := by
  obtain ⟨rs, h1, _⟩ := h.out
  rcases h1.2 with ⟨rfl, h0⟩ | ⟨g, cap, cur, rfl, _⟩
  · exact ⟨none, 0, by rw [h0]⟩
  · exact ⟨_, cap, rfl⟩
theorem Packs.lt {n : Nat} {W : World} {v : Value} {ps : List Ctl.Pk} (h : Packs n W v ps) : ∀ k, v.ownBlock = some k → n ≤ k ∧ k < W.heap.size := by
  obtain ⟨rs, h1, _⟩ := h.out
  exact h1.lt
set_option maxRecDepth 100000 in
theorem pks_index (b off n cap k : Nat) (hk : k < n) (W : World) : (Instr.indexAt 39 (.slice (some ⟨b, off, none⟩) n cap) (.int .i64 (k : Int))).run Tryz.prog W = .ok (.pointer (some ⟨b, off + 4 * k, none⟩)) W := by
  have hs : (sizeOf (Tryz.prog.elem 39)).run Tryz.prog W = .ok 4 W := Tryz.sizeOf36 W
  have e := run_indexAt_slice (P := Tryz.prog) W 39 ⟨b, off, none⟩ n cap .i64 (k : Int) Tryz.underlying39
  rw [if_pos (by omega), hs] at e
  simp only [Result.andThen, Int.toNat_natCast] at e
  rw [e]
  have e2 : (⟨b, off, none⟩ : Addr).add (k * 4) = ⟨b, off + 4 * k, none⟩ := by
    rw [Nat.mul_comm]
    unfold Addr.add
    split <;> simp_all
  rw [e2]
theorem cellsP_at (rs : List Rk) : ∀ (k : Nat) (h : k < rs.length), (cellsP rs)[4 * k]? = some (.int .i64 rs[k].1) ∧ (cellsP rs)[4 * k + 1]? = some (.int .i64 rs[k].2.1) ∧ (cellsP rs)[4 * k + 2]? = some rs[k].2.2.1 ∧ (cellsP rs)[4 * k + 3]? = some (.string ⟨rs[k].2.2.2.toArray⟩) := by
  induction rs with
  | nil => intro k h; simp at h
  | cons f r ih =>
    intro k h
    match k, h with
    | 0, _ => rw [cellsP_cons]; simp [pcs]
    | k + 1, h =>
      obtain ⟨h1, h2, h3, h4⟩ := ih k (by simpa using h)
      rw [cellsP_cons, show 4 * (k + 1) = 4 * k + 4 by omega]
      refine ⟨?_, ?_, ?_, ?_⟩
      all_goals
        rw [List.getElem?_append_right (by simp [pcs]; try omega)]
        simp only [pcs, List.length_cons, List.length_nil, List.getElem_cons_succ]
      · rw [show 4 * k + 4 - (0 + 1 + 1 + 1 + 1) = 4 * k by omega]; exact h1
      · rw [show 4 * k + 4 + 1 - (0 + 1 + 1 + 1 + 1) = 4 * k + 1 by omega]; exact h2
      · rw [show 4 * k + 4 + 2 - (0 + 1 + 1 + 1 + 1) = 4 * k + 2 by omega]; exact h3
      · rw [show 4 * k + 4 + 3 - (0 + 1 + 1 + 1 + 1) = 4 * k + 3 by omega]; exact h4
theorem Sames.at {n : Nat} {W : World} {rs : List Rk} {ps : List Ctl.Pk} (h : Sames n W rs ps) : ∀ (k : Nat) (hk : k < ps.length), ∃ hr : k < rs.length, Same n W rs[k] ps[k] := by
  induction h with
  | nil => intro k hk; simp at hk
  | @cons r p rs ps h1 _ ih =>
    intro k hk
    match k, hk with
    | 0, _ => exact ⟨by simp, h1⟩
    | k + 1, hk =>
      obtain ⟨hr, h⟩ := ih k (by simpa using hk)
      exact ⟨by simpa using hr, by simpa using h⟩
/-- The cells of a packet in a slice. -/
theorem Packs.at {n : Nat} {W : World} {v : Value} {ps : List Ctl.Pk} (h : Packs n W v ps) (k : Nat) (hk : k < ps.length) : ∃ g cap u, v = .slice (some ⟨g, 0, none⟩) ps.length cap ∧ n ≤ g ∧ g < W.heap.size ∧
    W.cell? ⟨g, 4 * k, none⟩ = some (.int .i64 ps[k].1) ∧ W.cell? ⟨g, 4 * k + 1, none⟩ = some (.int .i64 ps[k].2.1) ∧ W.cell? ⟨g, 4 * k + 2, none⟩ = some u ∧ W.cell? ⟨g, 4 * k + 3, none⟩ = some (.string ⟨ps[k].2.2.2.toArray⟩) ∧ Row n W u ps[k].2.2.1 := by
  obtain ⟨rs, h1, h2⟩ := h.out
  obtain ⟨hr, hs⟩ := h2.at k hk
  obtain ⟨c0, c1, c2, c3⟩ := cellsP_at rs k hr
  rcases h1.2 with ⟨_, h0⟩ | ⟨g, cap, cur, rfl, hb, hg, _⟩
  · omega
  · have hc := h1.cellAt
    rw [← hc (4 * k) (by omega)] at c0
    rw [← hc (4 * k + 1) (by omega)] at c1
    rw [← hc (4 * k + 2) (by omega)] at c2
    rw [← hc (4 * k + 3) (by omega)] at c3
    exact ⟨g, cap, _, rfl, hb, (h1.lt g rfl).2, hs.code ▸ c0, hs.id ▸ c1, c2, hs.data ▸ c3, hs.opts⟩
theorem Row.far {n : Nat} {S : Nat → Prop} {W W' : World} {u : Value} {os : List Opt.Op} (h : Row n W u os) (k : Chg S W W') (hs : ∀ g, u.ownBlock = some g → ¬ S g) : Row n W' u os := ⟨row_chg h.row k hs⟩
/-- A row of options and a row of packets never share a block. -/
theorem Row.ne {n b m : Nat} {W : World} {u v : Value} {os : List Opt.Op} {xs : List Value} (h : Row n W u os) (k : W.ownsRow b 36 4 v m xs) : ∀ g, v.ownBlock = some g → u.ownBlock ≠ some g := by
  intro g hg e
  rcases h.row.2 with ⟨rfl, _⟩ | ⟨g1, _, cur, rfl, _, hb, _⟩
  · cases e
  · rcases k.2 with ⟨rfl, _⟩ | ⟨g2, _, cur2, rfl, _, hb2, _⟩
    · cases hg
    · obtain rfl : g2 = g := by simpa [Value.ownBlock] using hg
      obtain rfl : g1 = g2 := by simpa [Value.ownBlock] using e
      rw [hb] at hb2
      injection hb2 with hb2
      injection hb2 with _ e2
      exact absurd e2 (by decide)
theorem Sames.grown {n b m : Nat} {W W' : World} {v : Value} {xs : List Value} {rs : List Rk} {ps : List Ctl.Pk} (h : Sames n W rs ps) (k : W.ownsRow b 36 4 v m xs) (hg : W.grownBy W' v.ownBlock) : Sames n W' rs ps := by
  induction h with
  | nil => exact .nil
  | cons h1 _ ih =>
    refine .cons ⟨h1.code, h1.id, h1.data, h1.opts.far (S := fun g => v.ownBlock = some g) (Chg.of_grown hg fun _ e => .inr e) fun g e s => h1.opts.ne k g s e⟩ ih
/-- Packets pushed behind packets; what else has changed lies in the row's own block. -/
theorem one_catP {o : Oper} {a : Act} {K : Act → World → Prop} {Q : Exit → Act → World → Prop} (sl x : Operand)
    (ho : o.op = .call { callee := .builtin .append, args := #[sl, x], argTypes := #[39, 39] })
    {W : World} (base n : Nat) (os ps : List Ctl.Pk) {v vx : Value} (hown : Packs n W v os) (hb : ∀ g, v.ownBlock = some g → base ≤ g) (hsz : base ≤ W.heap.size) (hnb : n ≤ base) (hr : Packs n W vx ps)
    (hs : a.eval sl = v) (hx : a.eval x = vx) (hl : (os.length + ps.length) * 56 ≤ 140737488355328)
    (h : ∀ v' w', Packs n w' v' (os ++ ps) → (∀ g, v'.ownBlock = some g → base ≤ g) → W.grownBy w' v.ownBlock → K (a.put o.dst v') w') : o.wp Tryz.prog a W K Q := by
  obtain ⟨i0, hi, hz0, hz1, hz2⟩ := info_parts infoP
  obtain ⟨rs, k1, k2⟩ := hown.out
  obtain ⟨qs, h1, h2⟩ := hr.out
  have kb : W.ownsRow base 36 4 v os.length (cellsP rs) := by
    refine ⟨k1.1, ?_⟩
    rcases k1.2 with h | ⟨g, cap, cur, rfl, _, h2⟩
    · exact .inl h
    · exact .inr ⟨g, cap, cur, rfl, hb g rfl, h2⟩
  have hcat : ∀ (ad : Addr) (cap : Nat), vx = .slice (some ad) ps.length cap → (∀ j u, (cellsP qs)[j]? = some u → W.cell? (ad.add j) = some u) → o.wp Tryz.prog a W K Q := by
    intro ad cap e hc
    subst e
    exact wp_append_own _ sl x 39 ho base 36 i0 (.agg #[.int .i64 0, .int .i64 0, .slice none 0 0, .string ⟨#[]⟩]) 4 56 Tryz.underlying39 hi hz0 hz1 hz2 rfl (by decide) v os.length (cellsP rs) hs kb ad ps.length cap (cellsP qs) hx (by rw [cellsP_length, h2.length]) hc h2.one (by unfold maxLen; omega) hl hsz
      fun v' w' j1 j2 _ => h v' w' ⟨rs ++ qs, by rw [cellsP_append, List.length_append]; exact row_mono j1 hnb, (k2.grown k1 j2).append (h2.grown k1 j2)⟩ (fun g hg => (j1.lt g hg).1) j2
  have hc := fun g hg => h1.cells (g := g) hg
  rcases h1.2 with ⟨rfl, h0⟩ | ⟨g, cap, cur, rfl, _⟩
  · obtain rfl : ps = [] := List.length_eq_zero_iff.1 h0
    have hrun := run_append_owned_none (P := Tryz.prog) (w := W) base 39 o.type 36 i0 4 Tryz.underlying39 hi v os.length (cellsP rs) kb
    have h0 := h v W (by rw [List.append_nil]; exact hown) hb ⟨rfl, rfl, rfl, Nat.le_refl _, fun _ _ _ => rfl⟩
    unfold Oper.wp
    simp [execOp, ho, resolve, invoke, builtin, hs, hx, hrun, Result.andThen]
    exact h0
  · exact hcat _ cap rfl (hc g rfl)
theorem wp_catP {ops : Array Oper} {rest : List Oper} {o : Oper} {a : Act} {Q : Exit → Act → World → Prop} (hgd : o.guard = none) (sl x : Operand)
    (ho : o.op = .call { callee := .builtin .append, args := #[sl, x], argTypes := #[39, 39] })
    {W : World} (base n : Nat) (os ps : List Ctl.Pk) {v vx : Value} (hown : Packs n W v os) (hb : ∀ g, v.ownBlock = some g → base ≤ g) (hsz : base ≤ W.heap.size) (hnb : n ≤ base) (hr : Packs n W vx ps)
    (hs : a.eval sl = v) (hx : a.eval x = vx) (hl : (os.length + ps.length) * 56 ≤ 140737488355328)
    (h : ∀ v' w', Packs n w' v' (os ++ ps) → (∀ g, v'.ownBlock = some g → base ≤ g) → W.grownBy w' v.ownBlock → wpList Tryz.prog ops Q rest (a.put o.dst v') w') :
    wpList Tryz.prog ops Q (o :: rest) a W :=
  wpList_plain hgd fun _ hK => one_catP sl x ho base n os ps hown hb hsz hnb hr hs hx hl fun v' w' h1 h2 h3 => hK _ _ (h v' w' h1 h2 h3)
theorem step_catP {ops : Array Oper} {o : Oper} {a : Act} {K : Act → World → Prop} {Q : Exit → Act → World → Prop} {E : Prop} (hgd : o.guard = none) (sl x : Operand)
    (ho : o.op = .call { callee := .builtin .append, args := #[sl, x], argTypes := #[39, 39] })
    {W : World} (base n : Nat) (os ps : List Ctl.Pk) {v vx : Value} (hown : Packs n W v os) (hb : ∀ g, v.ownBlock = some g → base ≤ g) (hsz : base ≤ W.heap.size) (hnb : n ≤ base) (hr : Packs n W vx ps)
    (hs : a.eval sl = v) (hx : a.eval x = vx) (hl : (os.length + ps.length) * 56 ≤ 140737488355328)
    (h : ∀ v' w', Packs n w' v' (os ++ ps) → (∀ g, v'.ownBlock = some g → base ≤ g) → W.grownBy w' v.ownBlock → K (a.put o.dst v') w') :
    if Region.wanted o (yielded ops a.tmps) = true then Oper.wp Tryz.prog o a W K Q else E := by
  have hw : Region.wanted o (yielded ops a.tmps) = true := by simp [Region.wanted, hgd]
  rw [if_pos hw]
  exact one_catP sl x ho base n os ps hown hb hsz hnb hr hs hx hl h
/-- One packet just laid. -/
theorem packs_lit {n : Nat} {W : World} {r : Rk} {p : Ctl.Pk} (h : Same n W r p) (hn : n ≤ W.heap.size) (t : Array Value) (ht : t = (pcs r).toArray) : Packs n (W.alloc (.cells t 36)) (.slice (some ⟨W.heap.size, 0, none⟩) 1 1) [p] := by
  subst ht
  refine ⟨⟨[r], ?_, .cons (h.chg (S := fun _ => False) (Chg.of_below ((Below.refl _ W).alloc (Nat.le_refl _) _)) fun _ _ => id) .nil⟩⟩
  have := World.ownsRow_lit (e := 36) (size := 4) (base := n) W (pcs r).toArray 1 hn (by unfold maxLen; omega) rfl
  simpa [cellsP] using this
end Go.Proofs.YteabkmelnoefiaaGreatDoor
namespace Go.Proofs.YteabkmelnoefiaaGreatDoor
open Go.RowKit
theorem Box.setCell {B : Nat} {a : World} {cs : List Value} (h : Box B a cs) {p : Addr} (hne : p.block ≠ B) (u : Value) : Box B (a.setCell p u) cs := fun j v hj =>
  (World.cell?_of_block (a := ⟨B, j, none⟩) (Below.heap_setCell a p u B (fun e => hne e.symm))).trans (h j v hj)
theorem Box.grown {B : Nat} {a b : World} {cs : List Value} {row : Option Nat} (h : Box B a cs) (hg : a.grownBy b row) (hne : some B ≠ row) : Box B b cs := fun j v hj =>
  (World.cell?_of_block (a := ⟨B, j, none⟩) (hg.block B (block_lt_of_cell (h j v hj)) hne)).trans (h j v hj)
theorem cell_below {a b : World} {p : Addr} {u : Value} (h : a.cell? p = some u) (k : Below a.heap.size a b) : b.cell? p = some u := (k.cell (block_lt_of_cell h)).trans h
end Go.Proofs.YteabkmelnoefiaaGreatDoor
namespace Go.Proofs.YteabkmelnoefiaaGreatDoor
open Go.RowKit
theorem OwnsO.base {w w1 W : World} {v : Value} {os : List Opt.Op} (h : OwnsO w1 W v os) (k : Below w.heap.size w w1) : OwnsO w W v os := ⟨h.1.mono k.size, bel2 k h.2⟩
theorem OwnsO.setCell {w W : World} {v : Value} {os : List Opt.Op} (h : OwnsO w W v os) {p : Addr} (hp : w.heap.size ≤ p.block) (hne : ∀ k, v.ownBlock = some k → p.block < k) (u : Value) : OwnsO w (W.setCell p u) v os := by
  refine ⟨h.1.kept (grown_cell W p u) ?_, h.2.setCell hp u⟩
  cases hv : v.ownBlock with
  | none => exact .inl rfl
  | some k =>
    refine .inr fun e => ?_
    have := hne k hv
    simp only [Option.some.injEq] at e
    omega
theorem OwnsO.setOther {w W : World} {v : Value} {os : List Opt.Op} (h : OwnsO w W v os) {p : Addr} (hp : w.heap.size ≤ p.block) (hne : ∀ k, v.ownBlock = some k → k < p.block) (u : Value) : OwnsO w (W.setCell p u) v os := by
  refine ⟨h.1.kept (grown_cell W p u) ?_, h.2.setCell hp u⟩
  cases hv : v.ownBlock with
  | none => exact .inl rfl
  | some k =>
    refine .inr fun e => ?_
    have := hne k hv
    simp only [Option.some.injEq] at e
    omega
/-- The blocks of a slice of a later call's own lie behind. -/
theorem OwnsO.above {w1 W : World} {v : Value} {os : List Opt.Op} (h : OwnsO w1 W v os) {b : Nat} (hb : b < w1.heap.size) : ∀ k, v.ownBlock = some k → b < k := fun k hk => Nat.lt_of_lt_of_le hb (h.1.lt k hk).1
theorem OwnsO.form2 {w W : World} {v : Value} {os : List Opt.Op} (h : OwnsO w W v os) : ∃ p cap, v = .slice p os.length cap := by
  obtain ⟨p, cap, _, _, h, _⟩ := h.reads.at
  exact ⟨p, cap, h⟩
end Go.Proofs.YteabkmelnoefiaaGreatDoor
namespace Go.Proofs.YteabkmelnoefiaaGreatDoor
open Go.RowKit
set_option maxRecDepth 100000
/-- Block 'B' holds these cells, and may be written. -/
def Blk (B : Nat) (w : World) (cs : List Value) : Prop := Box B w cs ∧ ∀ o, w.frozen? ⟨B, o, none⟩ = false
theorem Blk.lt {B : Nat} {w : World} {c : Value} {cs : List Value} (h : Blk B w (c :: cs)) : B < w.heap.size := h.1.lt
theorem Blk.below {B : Nat} {w w' : World} {c : Value} {cs : List Value} (h : Blk B w (c :: cs)) (k : Below w.heap.size w w') : Blk B w' (c :: cs) :=
  ⟨h.1.below k, fun o => (k.frozen (p := ⟨B, o, none⟩) h.lt).trans (h.2 o)⟩
theorem Blk.grown {B : Nat} {w w' : World} {c : Value} {cs : List Value} {r : Option Nat} (h : Blk B w (c :: cs)) (k : w.grownBy w' r) (hne : some B ≠ r) : Blk B w' (c :: cs) :=
  ⟨h.1.grown k hne, fun o => (World.frozen?_of_block (a := ⟨B, o, none⟩) (k.block B h.lt hne)).trans (h.2 o)⟩
theorem Blk.new (w : World) (cs : List Value) (t : TypeId) : Blk w.heap.size (w.alloc (.cells cs.toArray t)) cs := ⟨Box.new w cs t, fun o => by simp⟩
theorem Blk.at {B n : Nat} {a : World} {cs : List Value} (h : Blk B a cs) (e : B = n) : Blk n a cs := e ▸ h
theorem Blk.alloc {B : Nat} {a : World} {c : Value} {cs : List Value} (h : Blk B a (c :: cs)) (o : Obj) : Blk B (a.alloc o) (c :: cs) := h.below ((Below.refl _ a).alloc (Nat.le_refl _) o)
theorem Blk.drew {B : Nat} {a : World} {cs : List Value} (h : Blk B a cs) : Blk B a.drew cs := h
theorem Blk.cell {B : Nat} {a : World} {cs : List Value} (h : Blk B a cs) (j : Nat) (u : Value) (hj : cs[j]? = some u) : a.cell? ⟨B, j, none⟩ = some u := h.1 j u hj
theorem Blk.set {B : Nat} {w : World} {cs : List Value} (h : Blk B w cs) (j : Nat) (u : Value) : Blk B (w.setCell ⟨B, j, none⟩ u) (cs.set j u) := by
  refine ⟨fun i v hi => ?_, fun o => by rw [World.frozen?_setCell]; exact h.2 o⟩
  have hlt : i < cs.length := by have := (List.getElem?_eq_some_iff.1 hi).1; simpa using this
  by_cases e : i = j
  · subst e
    rw [List.getElem?_set_self hlt] at hi
    cases hi
    exact World.cell?_setCell_same _ _ _ (h.1 i _ (List.getElem?_eq_getElem hlt))
  · rw [List.getElem?_set_ne (fun x => e x.symm)] at hi
    rw [World.cell?_setCell_other _ _ _ _ (fun x => e (Addr.mk.inj x).2.1.symm)]
    exact h.1 i v hi
theorem Blk.setOther {B : Nat} {w : World} {cs : List Value} (h : Blk B w cs) {p : Addr} (hne : p.block ≠ B) (u : Value) : Blk B (w.setCell p u) cs :=
  ⟨h.1.setCell hne u, fun o => by rw [World.frozen?_setCell]; exact h.2 o⟩
theorem blk_grown (w : World) (a : Addr) (u : Value) : w.grownBy (w.setCell a u) (some a.block) :=
  ⟨rfl, rfl, rfl, by simp, fun k _ hk => Below.heap_setCell w a u k (fun e => hk (by rw [e]))⟩
end Go.Proofs.YteabkmelnoefiaaGreatDoor
namespace Go.Proofs.YteabkmelnoefiaaGreatDoor
open Go.RowKit
set_option maxRecDepth 100000
/-- A row of the call's own while a cell of another block is written. -/
theorem row_other {W : World} {b : Nat} {e : TypeId} {v : Value} {n : Nat} {xs : List Value} (h : W.ownsRow b e 1 v n xs) {p : Addr} (hg : v.ownBlock ≠ some p.block) (u : Value) : (W.setCell p u).ownsRow b e 1 v n xs :=
  h.kept (blk_grown W p u) (.inr fun x => hg x)
theorem row_below {W W' : World} {b : Nat} {e : TypeId} {v : Value} {n : Nat} {xs : List Value} (h : W.ownsRow b e 1 v n xs) (hb : Below W.heap.size W W') : W'.ownsRow b e 1 v n xs :=
  h.kept (row := none) ⟨hb.os, hb.tape, hb.output, hb.size, fun k hk _ => hb.block k hk⟩ (by cases hv : v.ownBlock <;> simp)
/-- Integers pushed behind a row of the call's own; what else has changed lies in the row's own block. At a step of a region that draws:
go_region_law (refine step_catR rfl _ _ rfl base zs r hown hsz hr rfl rfl hlen ?_; intro v' w2 h1 h2). -/
theorem one_catR {o : Oper} {a : Act} {K : Act → World → Prop} {Q : Exit → Act → World → Prop} (sl x : Operand)
    (ho : o.op = .call { callee := .builtin .append, args := #[sl, x], argTypes := #[55, 55] })
    {W : World} (base : Nat) (zs r : List Int) {v vx : Value} (hown : W.ownsRow base 3 1 v zs.length (cellsI zs)) (hsz : base ≤ W.heap.size) (hne : r ≠ []) (hr : ReadsI W vx r)
    (hs : a.eval sl = v) (hx : a.eval x = vx) (hl : (zs.length + r.length) * 8 ≤ 140737488355328)
    (h : ∀ v' w', w'.ownsRow base 3 1 v' (zs.length + r.length) (cellsI (zs ++ r)) → W.grownBy w' v.ownBlock → K (a.put o.dst v') w') : o.wp Tryz.prog a W K Q := by
  obtain ⟨i0, hi, hz0, hz1, hz2⟩ := info_parts infoI
  have hcat : ∀ (ad : Addr) (cap : Nat), vx = .slice (some ad) r.length cap → (∀ j u, (cellsI r)[j]? = some u → W.cell? (ad.add j) = some u) → o.wp Tryz.prog a W K Q := by
    intro ad cap e hc
    subst e
    exact wp_append_own _ sl x 55 ho base 3 i0 (.int .i64 0) 1 8 Tryz.underlying55 hi hz0 hz1 hz2 rfl (by decide) v zs.length (cellsI zs) hs hown ad r.length cap (cellsI r) hx (by simp [cellsI]) hc (cellsI_one r) (by unfold maxLen; omega) hl hsz
      fun v' w' h1 h2 _ => h v' w' (by rw [cellsI_append]; exact h1) h2
  rcases hr with ⟨h0, _⟩ | ⟨b, off, cap, rfl, hle, hc⟩
  · exact absurd h0 hne
  · refine hcat _ cap rfl fun j u hj => ?_
    rw [add_at]
    exact hc j u hj
theorem step_catR {ops : Array Oper} {o : Oper} {a : Act} {K : Act → World → Prop} {Q : Exit → Act → World → Prop} {E : Prop} (hgd : o.guard = none) (sl x : Operand)
    (ho : o.op = .call { callee := .builtin .append, args := #[sl, x], argTypes := #[55, 55] })
    {W : World} (base : Nat) (zs r : List Int) {v vx : Value} (hown : W.ownsRow base 3 1 v zs.length (cellsI zs)) (hsz : base ≤ W.heap.size) (hne : r ≠ []) (hr : ReadsI W vx r)
    (hs : a.eval sl = v) (hx : a.eval x = vx) (hl : (zs.length + r.length) * 8 ≤ 140737488355328)
    (h : ∀ v' w', w'.ownsRow base 3 1 v' (zs.length + r.length) (cellsI (zs ++ r)) → W.grownBy w' v.ownBlock → K (a.put o.dst v') w') :
    if Region.wanted o (yielded ops a.tmps) = true then Oper.wp Tryz.prog o a W K Q else E := by
  have hw : Region.wanted o (yielded ops a.tmps) = true := by simp [Region.wanted, hgd]
  rw [if_pos hw]
  exact one_catR sl x ho base zs r hown hsz hne hr hs hx hl h
theorem wp_catR {ops : Array Oper} {rest : List Oper} {o : Oper} {a : Act} {Q : Exit → Act → World → Prop} (hgd : o.guard = none) (sl x : Operand)
    (ho : o.op = .call { callee := .builtin .append, args := #[sl, x], argTypes := #[55, 55] })
    {W : World} (base : Nat) (zs r : List Int) {v vx : Value} (hown : W.ownsRow base 3 1 v zs.length (cellsI zs)) (hsz : base ≤ W.heap.size) (hne : r ≠ []) (hr : ReadsI W vx r)
    (hs : a.eval sl = v) (hx : a.eval x = vx) (hl : (zs.length + r.length) * 8 ≤ 140737488355328)
    (h : ∀ v' w', w'.ownsRow base 3 1 v' (zs.length + r.length) (cellsI (zs ++ r)) → W.grownBy w' v.ownBlock → wpList Tryz.prog ops Q rest (a.put o.dst v') w') :
    wpList Tryz.prog ops Q (o :: rest) a W :=
  wpList_plain hgd fun _ hK => one_catR sl x ho base zs r hown hsz hne hr hs hx hl fun v' w' h1 h2 => hK _ _ (h v' w' h1 h2)
theorem row_reads {W : World} {b : Nat} {v : Value} {zs : List Int} (h : W.ownsRow b 3 1 v zs.length (cellsI zs)) : ReadsI W v zs := by
  have hc := fun g hg => h.cells (g := g) hg
  rcases h.2 with ⟨rfl, h0⟩ | ⟨g, cap, cur, rfl, _, _, hn, _⟩
  · obtain rfl : zs = [] := List.length_eq_zero_iff.1 h0
    exact readsI_nil W
  · refine .inr ⟨g, 0, cap, rfl, hn, fun j u hj => ?_⟩
    have := hc g rfl j u hj
    rwa [add_at] at this
theorem row_same {W W' : World} {b : Nat} {e : TypeId} {v : Value} {n : Nat} {xs : List Value} (h : W.ownsRow b e 1 v n xs) (k : ∀ g, v.ownBlock = some g → W'.heap[g]? = W.heap[g]?) : W'.ownsRow b e 1 v n xs := by
  refine ⟨h.1, ?_⟩
  rcases h.2 with h | ⟨g, cap, cur, rfl, h1, h2, h3⟩
  · exact .inl h
  · exact .inr ⟨g, cap, cur, rfl, h1, (k g rfl).trans h2, h3⟩
theorem cell_grown {a b : World} {B j : Nat} {u : Value} {r : Option Nat} (h : a.cell? ⟨B, j, none⟩ = some u) (k : a.grownBy b r) (hne : some B ≠ r) : b.cell? ⟨B, j, none⟩ = some u :=
  (World.cell?_of_block (a := ⟨B, j, none⟩) (k.block B (block_lt_of_cell h) hne)).trans h
theorem cell_other {a : World} {B j : Nat} {u : Value} (h : a.cell? ⟨B, j, none⟩ = some u) {p : Addr} (hne : p.block ≠ B) (v : Value) : (a.setCell p v).cell? ⟨B, j, none⟩ = some u :=
  (World.cell?_of_block (a := ⟨B, j, none⟩) (Below.heap_setCell a p v B (fun e => hne e.symm))).trans h
theorem row_form {W : World} {b : Nat} {e : TypeId} {v : Value} {n : Nat} {xs : List Value} (h : W.ownsRow b e 1 v n xs) : ∃ p cap, v = .slice p n cap := by
  rcases h.2 with ⟨rfl, h0⟩ | ⟨g, cap, cur, rfl, _⟩
  · subst h0
    exact ⟨none, 0, rfl⟩
  · exact ⟨_, cap, rfl⟩
theorem row_apart {W : World} {b : Nat} {e : TypeId} {v : Value} {n : Nat} {xs : List Value} (h : W.ownsRow b e 1 v n xs) {g : Nat} (hg : g < b) : some g ≠ v.ownBlock := fun x => by
  have := (h.lt g x.symm).1
  omega
end Go.Proofs.YteabkmelnoefiaaGreatDoor
namespace Go.Proofs.YteabkmelnoefiaaGreatDoor
open Go.ChangeShapes Go.WideShapes Go.ChangeAt Go.RowKit Go.Joins Go.Deep
set_option maxRecDepth 100000
theorem open_link {H : Type} {enc : TypeId × Value → H} {W : World} {base : Nat} {sp : Nat → Bool} {held : Bool} {r : Reach} {b0 : Nat} {v : Value} {d : DataW H} {p : List MemPlace}
    (hv : Value.okWide Tryz.prog W r b0 23 v) (h : DataW.Trod enc Tryz.prog W base sp held 23 v d p) :
    ∃ l : Pol.Lk, v = Pl.lv l ∧ (Lit.int .i64 l.mru).wf = true ∧ (Lit.int .i64 l.magic).wf = true ∧ (Lit.int .i64 l.mrru).wf = true ∧ (Lit.int .i64 l.num).wf = true := by
  obtain ⟨⟨l⟩, rfl, hsz⟩ := okWide_struct Tryz.underlying23 hv
  obtain ⟨fuel, hf⟩ := h
  have hC : Tryz.prog.cellsOf 23 = 6 := by kernel_rfl
  obtain ⟨xs, n, _, _, _, hlen, hg⟩ := DataW.trod_struct Tryz.underlying23 hf
  match l, hsz.trans hC with
  | [c0, c1, c2, c3, c4, c5], _ =>
    match xs, hlen with
    | [y0, y1, y2, y3, y4, y5], _ =>
      have one : Tryz.prog.cellsOf 3 = 1 := by kernel_rfl
      have oneB : Tryz.prog.cellsOf 4 = 1 := by kernel_rfl
      have oneS : Tryz.prog.cellsOf 9 = 1 := by kernel_rfl
      have g0 := hg 0 _ rfl
      have g1 := hg 1 _ rfl
      have g2 := hg 2 _ rfl
      have g3 := hg 3 _ rfl
      have g4 := hg 4 _ rfl
      have g5 := hg 5 _ rfl
      obtain ⟨a, e0, _, w0⟩ := DataW.trod_int Tryz.underlying3 g0
      obtain ⟨b, e1, _, w1⟩ := DataW.trod_int Tryz.underlying3 g1
      obtain ⟨c, e2, _, w2⟩ := DataW.trod_int Tryz.underlying3 g2
      obtain ⟨s, e3, _⟩ := DataW.trod_bool Tryz.underlying4 g3
      obtain ⟨t, e4, _, _⟩ := DataW.trod_string Tryz.underlying9 g4
      obtain ⟨m, e5, _, w5⟩ := DataW.trod_int Tryz.underlying3 g5
      simp [Value.cells, one, oneB, oneS] at e0 e1 e2 e3 e4 e5
      subst e0 e1 e2 e3 e4 e5
      exact ⟨⟨a, b, c, s, t.data.toList, m⟩, by unfold Pl.lv; simp, w0, w1, w2, w5⟩
end Go.Proofs.YteabkmelnoefiaaGreatDoor
