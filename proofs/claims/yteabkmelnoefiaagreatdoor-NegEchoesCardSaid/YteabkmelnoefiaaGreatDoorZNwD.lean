/-
  Stage 15: contract of the laws' own SamePackets, at packets that are the same.
  Stage 15: the walk of the law of a side that is open, and its echoes.
  Stage 15's law of echoes, as its frame takes it.
-/
import Derived.Test.YteabkmelnoefiaaGreatDoorZ06
import Derived.Test.YteabkmelnoefiaaGreatDoorZ05
import Derived.Test.YteabkmelnoefiaaGreatDoorZNwM
import Derived.Test.YteabkmelnoefiaaGreatDoorZ04
import Derived.Test.YteabkmelnoefiaaGreatDoorZ09
import Derived.Deep.RegionHeldLaw
import Derived.Deep.DeepCutAuto
namespace Go.Proofs.YteabkmelnoefiaaGreatDoor.Ne
open Go.RowKit
set_option maxRecDepth 100000
set_option maxHeartbeats 1600000 in
theorem samePk_yes (c i : Int) (va vb : Value) (os : List Opt.Op) (d : ByteArray) (W : World) (ha : ReadsO W va os) (hb : ReadsO W vb os) (hl : os.length ≤ 4611686018427387904) :
    Calls Tryz.prog 36 #[.agg #[.int .i64 c, .int .i64 i, va, .string d], .agg #[.int .i64 c, .int .i64 i, vb, .string d]] W fun e w' => e = .returned (.bool true) ∧ Below W.heap.size W w' := by
  have HB := Lib.hid (((Below.refl W.heap.size W).alloc (Nat.le_refl _) (.cells #[.int .i64 c, .int .i64 i, va, .string d] 36)).alloc (by simp) (.cells #[.int .i64 c, .int .i64 i, vb, .string d] 36))
  have S := Lib.hid (sameO_any va vb os os _ (ha.below HB.out) (hb.below HB.out) hl hl)
  rw [decide_eq_true rfl] at S
  have q1 : (c == c) = true := by simp
  have q2 : (i == i) = true := by simp
  clear ha hb
  go_enter Tryz.func36, Tryz.ntmps36
  go_wp2_with (refine S.out.mono ?_; rintro e w1 ⟨rfl, hb1⟩; have HB1 := Lib.hid (bel2 HB.out hb1); clear hb1)
  go_ret
  exact ⟨rfl, HB1.out⟩
set_option maxHeartbeats 3200000 in
theorem samePks_yes (n m : Nat) (va vb : Value) (ps : List Ctl.Pk) (W : World) (ha : Packs n W va ps) (hb : Packs m W vb ps) (hl : ps.length ≤ 4611686018427387904) (ho : ∀ p ∈ ps, p.2.2.1.length ≤ 4611686018427387904) :
    Calls Tryz.prog 18 #[va, vb] W fun e w' => e = .returned (.bool true) ∧ Below W.heap.size W w' := by
  obtain ⟨pa, ca, ea⟩ := ha.form
  obtain ⟨pb, cb, eb⟩ := hb.form
  subst ea eb
  have HA := Lib.hid ha
  have HB := Lib.hid hb
  have HO := Lib.hid ho
  clear ha hb ho
  have q0 : ((ps.length : Int) != (ps.length : Int)) = false := by simp
  go_enter Tryz.func18, Tryz.ntmps18
  go_wp2_with fail
  go_loopw [5] (fun i wr => ∃ k : Nat, k ≤ ps.length ∧ i = .int .i64 (k : Int) ∧ Below W.heap.size W wr) (fun i _ => ps.length - (intOf i).toNat)
  case atStart => exact ⟨0, Nat.zero_le _, rfl, Below.refl _ _⟩
  case round =>
    obtain ⟨k, hk, rfl, hb⟩ := hrel
    have BB := Lib.hid hb
    clear hb
    by_cases hlt : k < ps.length
    · obtain ⟨Ga, cap, ua, e0, _, _, a0, a1, a2, a3, hra⟩ := (HA.out.below BB.out).at k hlt
      obtain ⟨Gb, cap2, ub, e1, _, _, b0, b1, b2, b3, hrb⟩ := (HB.out.below BB.out).at k hlt
      obtain ⟨rfl, rfl⟩ : pa = some ⟨Ga, 0, none⟩ ∧ ca = cap := by simpa using e0
      obtain ⟨rfl, rfl⟩ : pb = some ⟨Gb, 0, none⟩ ∧ cb = cap2 := by simpa using e1
      have hi := pks_index Ga 0 ps.length ca k hlt
      have hi2 := pks_index Gb 0 ps.length cb k hlt
      have hlen := HO.out ps[k] (List.getElem_mem hlt)
      have SP := Lib.hid (samePk_yes ps[k].1 ps[k].2.1 ua ub ps[k].2.2.1 ⟨ps[k].2.2.2.toArray⟩ wr.drew hra.reads.drew hrb.reads.drew hlen)
      have SM : Hid (∀ a : World, Below wr.heap.size wr a → a.cell? ⟨Ga, 4 * k, none⟩ = some (.int .i64 ps[k].1) ∧ a.cell? ⟨Ga, 4 * k + 1, none⟩ = some (.int .i64 ps[k].2.1) ∧ a.cell? ⟨Ga, 4 * k + 2, none⟩ = some ua ∧ a.cell? ⟨Ga, 4 * k + 3, none⟩ = some (.string ⟨ps[k].2.2.2.toArray⟩) ∧
          a.cell? ⟨Gb, 4 * k, none⟩ = some (.int .i64 ps[k].1) ∧ a.cell? ⟨Gb, 4 * k + 1, none⟩ = some (.int .i64 ps[k].2.1) ∧ a.cell? ⟨Gb, 4 * k + 2, none⟩ = some ub ∧ a.cell? ⟨Gb, 4 * k + 3, none⟩ = some (.string ⟨ps[k].2.2.2.toArray⟩)) :=
        Lib.hid fun a h => ⟨(h.cell (block_lt_of_cell a0)).trans a0, (h.cell (block_lt_of_cell a1)).trans a1, (h.cell (block_lt_of_cell a2)).trans a2, (h.cell (block_lt_of_cell a3)).trans a3, (h.cell (block_lt_of_cell b0)).trans b0, (h.cell (block_lt_of_cell b1)).trans b1, (h.cell (block_lt_of_cell b2)).trans b2, (h.cell (block_lt_of_cell b3)).trans b3⟩
      obtain ⟨px, cx, hx⟩ := hra.form
      obtain ⟨py, cy, hy⟩ := hrb.form
      subst hx hy
      clear e0 e1 a0 a1 a2 a3 b0 b1 b2 b3 hra hrb hlen
      generalize ps[k] = p at *
      obtain ⟨o8, ho8⟩ : ∃ o8, o8 = 4 * k := ⟨_, rfl⟩
      rw [Nat.zero_add] at hi hi2
      rw [← ho8] at hi hi2 SM
      clear ho8
      go_wp2_with fail
      go_region_held (fun a => a.cell? ⟨Ga, o8, none⟩ = some (.int .i64 p.1) ∧ a.cell? ⟨Ga, o8 + 1, none⟩ = some (.int .i64 p.2.1) ∧ a.cell? ⟨Ga, o8 + 2, none⟩ = some (.slice px p.2.2.1.length cx) ∧ a.cell? ⟨Ga, o8 + 3, none⟩ = some (.string ⟨p.2.2.2.toArray⟩) ∧
          a.cell? ⟨Gb, o8, none⟩ = some (.int .i64 p.1) ∧ a.cell? ⟨Gb, o8 + 1, none⟩ = some (.int .i64 p.2.1) ∧ a.cell? ⟨Gb, o8 + 2, none⟩ = some (.slice py p.2.2.1.length cy) ∧ a.cell? ⟨Gb, o8 + 3, none⟩ = some (.string ⟨p.2.2.2.toArray⟩))
        (with_reducible (first | assumption | exact hS5 | exact SM.out _ (Below.refl _ wr).drew))
        (first | (go_at_call 36; (refine SP.out.mono ?_); rintro e w5 ⟨rfl, hb⟩; have hb5 : Below wr.heap.size wr w5 := ⟨hb.os, hb.tape, hb.output, hb.size, hb.block⟩; have hS5 := SM.out w5 hb5; have B5 := Lib.hid (BB.out.trans (hb5.mono BB.out.size)); clear hb hb5))
      go_wp2_with fail
      go_roundw
      case rel => exact ⟨k + 1, by omega, by go_num, B5.out⟩
      case measure => simp [intOf]; omega
    · obtain rfl : k = ps.length := by omega
      go_wp2_with fail
      go_ret
      exact ⟨rfl, BB.out⟩
end Go.Proofs.YteabkmelnoefiaaGreatDoor.Ne
namespace Go.Proofs.YteabkmelnoefiaaGreatDoor.Ne
open Go.RowKit
set_option maxRecDepth 100000
theorem i64_and127 (n : Int) : bits BinOp.and IntKind.i64 n 127 = n % 128 := by
  have e : (BitVec.ofInt 64 (127 : Int)).toNat = 127 := ofInt_i64 127 (by omega)
  show IntKind.i64.wrap ((BitVec.ofInt 64 n &&& BitVec.ofInt 64 127).toNat : Int) = _
  rw [BitVec.toNat_and, e, show (127 : Nat) = 2 ^ 7 - 1 from rfl, Nat.and_two_pow_sub_one_eq_mod, BitVec.toNat_ofInt, i64_wrap _ (by omega)]
  omega
theorem echoes_early (a : Pol.Lk) (id cd : Int) (s : ByteArray) (h : Pol.may a = false) (w : World) (ST : U.StepOk w) :
    Calls Tryz.prog 7 #[.agg (Pl.lcs a).toArray, .int .i64 id, .string s, .int .i64 cd] w fun e w' => e = .returned (.bool true) ∧ Below w.heap.size w w' := by
  obtain ⟨w1, hw1⟩ : ∃ w1, w1 = w.alloc (.cells (Pl.lcs a).toArray 23) := ⟨_, rfl⟩
  have HB : Hid (Below w.heap.size w w1) := Lib.hid (hw1 ▸ (Below.refl w.heap.size w).alloc (Nat.le_refl _) _)
  have KA : Hid (Pl.Lnk w.heap.size w1 a) := Lib.hid (hw1 ▸ Pl.Lnk.new w a)
  have AW := Lib.hid (awake_any w1 (U.StepOk.later ST HB.out))
  have MA := Lib.hid fun W => Pl.may_any a W
  rw [h] at MA
  clear ST h
  go_enter Tryz.func7, Tryz.ntmps7
  go_upto_region 1 with (fail)
  rw [← hw1]
  clear hw1
  go_wp2_with (first
    | (go_at_call 15; (refine AW.out.mono ?_); rintro e w2 ⟨rfl, hb⟩; have B2 := Lib.hid (bel2 HB.out hb); have KA2 := Lib.hid (KA.out.below hb); clear hb)
    | (refine Pl.step_link rfl _ rfl w.heap.size a rfl (by with_reducible exact KA2.out) ?_)
    | (go_at_call 28; (refine (MA.out _).mono ?_); rintro e w3 ⟨rfl, hb⟩; have B3 := Lib.hid (bel2 B2.out hb); clear hb))
  go_ret
  exact ⟨rfl, B3.out⟩
set_option maxHeartbeats 12800000 in
theorem echoes_good (a : Pol.Lk) (id cd : Int) (S : List UInt8) (hs : S.length ≤ 140737488351232) (ha : Pol.may a = true) (w : World) (ST : U.StepOk w) :
    Calls Tryz.prog 7 #[.agg (Pl.lcs a).toArray, .int .i64 id, .string ⟨S.toArray⟩, .int .i64 cd] w fun e w' => e = .returned (.bool true) ∧ Below w.heap.size w w' := by
  obtain ⟨w1, hw1⟩ : ∃ w1, w1 = w.alloc (.cells (Pl.lcs a).toArray 23) := ⟨_, rfl⟩
  have HB : Hid (Below w.heap.size w w1) := Lib.hid (hw1 ▸ (Below.refl w.heap.size w).alloc (Nat.le_refl _) _)
  have KA : Hid (Pl.Lnk w.heap.size w1 a) := Lib.hid (hw1 ▸ Pl.Lnk.new w a)
  have AW := Lib.hid (awake_any w1 (U.StepOk.later ST HB.out))
  have MA := Lib.hid fun W => Pl.may_any a W
  rw [ha] at MA
  have OP : Hid (∀ W, Below w.heap.size w W → Calls Tryz.prog 29 #[Pl.lv a, .agg #[.int .i64 0, .int .i64 0, .int .i64 0, .bool true, .string ⟨#[]⟩, .int .i64 0]] W fun e w' => ∃ Bx By n x y, e = .returned (.tuple #[.pointer (some ⟨Bx, 0, none⟩), .pointer (some ⟨By, 0, none⟩), .bool true]) ∧ Ng.Opened 8 x y ∧ Pair W n Bx By w' x y) :=
    Lib.hid fun W (k : Below w.heap.size w W) => open_any a ⟨0, 0, 0, true, [], 0⟩ ha (by decide) (fun h => h.1 h.2) W (U.StepOk.later ST k)
  have NU := Lib.hid num_any
  obtain ⟨D, hD, hDl⟩ : ∃ D : List UInt8, D = S.take 100 ∧ D.length ≤ 100 := ⟨_, rfl, by rw [List.length_take]; omega⟩
  obtain ⟨i, hi0, hi⟩ : ∃ i : Int, bits BinOp.and IntKind.i64 id 255 = i ∧ 0 ≤ i ∧ i ≤ 255 := ⟨_, i64_and255 id, by omega⟩
  obtain ⟨c, kk, hc0, hc1, hc⟩ : ∃ c k : Int, bits BinOp.and IntKind.i64 cd 127 = k ∧ wrap64 (12 + k) = c ∧ 12 ≤ c ∧ c ≤ 255 := ⟨12 + cd % 128, cd % 128, i64_and127 cd, by rw [IntWalk.wrap64_in _ ⟨by omega, by omega⟩], by omega⟩
  have hdd : (S.length ≤ 100 ∧ D = S) ∨ (((100 : Int) < (S.length : Int)) ∧ (ByteArray.mk S.toArray).extract 0 100 = ⟨D.toArray⟩) := by
    by_cases h : S.length ≤ 100
    · exact .inl ⟨h, by rw [hD, List.take_of_length_le h]⟩
    · refine .inr ⟨by omega, ?_⟩
      rw [cut_list, List.drop_zero, ← hD]
  clear ST ha hD
  have hss : ∀ x : List UInt8, (ByteArray.mk x.toArray).size = x.length := sz
  have hs2 : S.length ≤ 9223372036854775807 := by omega
  rcases hdd with ⟨g1, rfl⟩ | ⟨g1, g2⟩
  all_goals
    go_enter Tryz.func7, Tryz.ntmps7
    go_upto_region 1 with (fail)
    rw [← hw1]
    clear hw1
    go_upto_region 6 with (first
      | (go_at_call 15; (refine AW.out.mono ?_); rintro e w2 ⟨rfl, hb⟩; have B2 := Lib.hid (bel2 HB.out hb); have KA2 := Lib.hid (KA.out.below hb); clear hb)
      | (refine Pl.step_link rfl _ rfl w.heap.size a rfl (by with_reducible first | exact KA2.out | exact KA3.out) ?_)
      | (go_at_call 28; (refine (MA.out _).mono ?_); rintro e w3 ⟨rfl, hb⟩; have B3 := Lib.hid (bel2 B2.out hb); have KA3 := Lib.hid (KA2.out.below hb); clear hb)
      | (go_at_call 29; (refine (OP.out _ B3.out).mono ?_); rintro e w5 ⟨Bx, By, n, x, y, rfl, ho, hp⟩; have HO := Lib.hid ho; have P5 := Lib.hid hp; clear ho hp))
    obtain ⟨u, v, ia, ib, hx, hy, _, _, _, i0, i1', _, _⟩ := HO.out.go
    rw [Ng.mk_at] at hx
    have E1 := Ng.echoes u v 8 8 ia ia i D hi (by omega)
    have E2 := Ng.refuses u v 8 8 ia ia c i D hc hi (by omega) (by omega)
    have E3 := Ng.discards u v 8 8 (ia + 1) ia i D hi (by omega)
    rw [← hx] at E1 E2
    obtain ⟨x2, hx2⟩ : ∃ x2, x2 = Ng.at_ 9 u v 8 8 (ia + 1) ia := ⟨_, rfl⟩
    rw [← hx2] at E2 E3
    have sx : x2.st = 9 := by rw [hx2]; rfl
    obtain ⟨tt, htt⟩ : ∃ tt, tt = (Ctl.put (c, i, [], D)).take 64 := ⟨_, rfl⟩
    have htl : tt.length ≤ 64 := by rw [htt, List.length_take]; omega
    rw [← htt] at E2
    have T1 := Lib.hid fun W (h : Rep w3 Bx W x) => side_take h 9 i (.slice none 0 0) [] D (reads_nil W) (Nat.zero_le _) (by omega)
    rw [E1] at T1
    have T2 := Lib.hid fun W (h : Rep w3 Bx W x) => side_take h c i (.slice none 0 0) [] D (reads_nil W) (Nat.zero_le _) (by omega)
    rw [E2] at T2
    have T3 := Lib.hid fun W (h : Rep w3 Bx W x2) => side_take h 11 i (.slice none 0 0) [] D (reads_nil W) (Nat.zero_le _) (by omega)
    rw [E3] at T3
    have C5 := Lib.hid (T1.out _ P5.out.rx)
    clear E1 E2 E3 hx hy hx2 htt i0 i1'
    go_wp2_with (first
      | (go_at_call 21; (with_reducible refine C5.out.mono ?_); rintro e w6 ⟨v6, rfl, hs⟩; have P6 := Lib.hid (P5.out.stepX hs.chg hs.rep); have Q6 := Lib.hid (hs.packs.mono P5.out.hn); have C6 := Lib.hid (T2.out _ P6.out.rx); clear hs)
      | (go_at_call 21; (with_reducible refine C6.out.mono ?_); rintro e w7 ⟨v7, rfl, hs⟩; have P7 := Lib.hid (P6.out.stepX hs.chg hs.rep); have Q7 := Lib.hid (packs_aside Q6.out hs.chg P6.out.hx); have S7 := Lib.hid (hs.packs.mono P6.out.hn); have C7 := Lib.hid (T3.out _ P7.out.rx); clear hs)
      | (go_at_call 21; (with_reducible refine C7.out.mono ?_); rintro e w8 ⟨v8, rfl, hs⟩; have P8 := Lib.hid (P7.out.stepX hs.chg hs.rep); have Q8 := Lib.hid (packs_aside Q7.out hs.chg P7.out.hx); obtain ⟨p8, d8, e8⟩ := hs.packs.form; subst e8; have S8 := Lib.hid (packs_aside S7.out hs.chg P7.out.hx); have B9 := Lib.hid ((Below.refl w8.heap.size w8).alloc (Nat.le_refl _) (.cells #[.int .i64 10, .int .i64 i, .slice none 0 0, .string ⟨D.toArray⟩] 36)); have SP := Lib.hid (samePks_yes n n _ _ [(10, i, [], D)] _ (Q8.out.below B9.out) (packs_lit (r := (10, i, .slice none 0 0, D)) ⟨rfl, rfl, rfl, Row.nil n w8⟩ P8.out.hn _ rfl) (by simp) (by simp)); clear hs)
      | (go_at_call 18; (refine SP.out.mono ?_); rintro e w10 ⟨rfl, hb⟩; have hb2 := bel2 B9.out hb; obtain ⟨gb, cb, ub, eb, _, zb, b0, b1, b2, b3, _⟩ := packs_one (S8.out.below hb2); subst eb; have ib2 := first_index gb cb; have R10 := Lib.hid (P8.out.rx.below hb2); have SS := Lib.hid (side_state R10.out); rw [sx] at SS; clear hb hb2)
      | (go_at_call 14; (refine (NU.out _ _).mono ?_); rintro e v1 ⟨rfl, rfl⟩)
      | (go_at_call 24; (refine SS.out.mono ?_); rintro e v1 ⟨rfl, rfl⟩))
    go_ret
    exact ⟨rfl, bel2 B3.out R10.out.base.bel⟩
theorem walk_echoes (a : Pol.Lk) (id : Int) (s : ByteArray) (cd : Int) (hs : s.size ≤ 140737488351232) (w : World) (ST : U.StepOk w) : Calls Tryz.prog 7 #[Pl.lv a, .int .i64 id, .string s, .int .i64 cd] w fun e w' => e = .returned (.bool true) ∧ Below w.heap.size w w' := by
  cases h : Pol.may a
  · exact echoes_early a id cd s h w ST
  · exact echoes_good a id cd s.data.toList (by simpa using hs) h w ST
end Go.Proofs.YteabkmelnoefiaaGreatDoor.Ne
namespace Go.Proofs.YteabkmelnoefiaaGreatDoor.U
open Go.RowKit
theorem law_negEchoes (a : Pol.Lk) (i : Int) (s : ByteArray) (c : Int) (w : World) (_ : (Lit.int .i64 i).wf = true) (hs : s.size ≤ 140737488351232) (_ : (Lit.int .i64 c).wf = true) (T : Tab w) :
    Calls Tryz.prog 7 #[Pl.lv a, .int .i64 i, .string s, .int .i64 c] w fun e w' => e = .returned (.bool true) ∧ Below w.heap.size w w' := Ne.walk_echoes a i s c hs w (step_any T)
end Go.Proofs.YteabkmelnoefiaaGreatDoor.U
