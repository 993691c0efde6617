/-
  Stage 15: contract of what is done with a packet.
  Stage 15: what is done with a packet, code by code.
  Stage 15: what is done with a request, with an ack, with a packet of a code that is unknown.
-/
import Derived.Test.YteabkmelnoefiaaGreatDoorZ26
import Derived.Test.YteabkmelnoefiaaGreatDoorZ04
namespace Go.Proofs.YteabkmelnoefiaaGreatDoor.Ne
open Go.RowKit
set_option maxRecDepth 100000
abbrev TakePost (n B : Nat) (w : World) (r : Mem × List Ctl.Pk × Int) : Ending → World → Prop := fun e w' => ∃ v, e = .returned (.tuple #[v, .int .i64 r.2.2]) ∧ Packs n w' v r.2.1 ∧ Rg B w' r.1 ∧ Chg (One B) w w'
theorem two_base {A B : Nat} {w w3 w4 : World} (h : Chg (Two B A) w3 w4) (k : Chg (One B) w w3) (hA : A = B ∨ w.heap.size ≤ A) : Chg (One B) w w4 :=
  h.base k fun i hi e => e.elim id fun e => hA.elim (fun h => e.trans h) fun h => by omega
/-- What a packet that layer 5 takes is like. -/
theorem sound (c i : Int) (os : List Opt.Op) (d : List UInt8) (h : Ctl.code (c, i, os, d) = 0) : (0 ≤ c ∧ c ≤ 255) ∧ (0 ≤ i ∧ i ≤ 255) ∧ os.length ≤ 1000000 ∧ (∀ o ∈ os, 0 ≤ o.1 ∧ o.1 ≤ 255) ∧ (∀ o ∈ os, o.2.length ≤ 253) ∧ d.length ≤ 2048 := by
  rcases Ctl.code_ways c i os d with ⟨_, e⟩ | ⟨_, _, e⟩ | ⟨_, _, _, e⟩ | ⟨_, _, _, _, e⟩ | ⟨_, _, _, _, _, e⟩ | ⟨h1, h2, h3, h4, h5, _⟩
  · omega
  · omega
  · omega
  · omega
  · omega
  · simp only [Ctl.byte, Bool.and_eq_true, decide_eq_true_eq] at h1 h2
    rcases Opt.code_ways os with ⟨_, e⟩ | ⟨_, _, e⟩ | ⟨k1, k2, _⟩
    · omega
    · omega
    · obtain ⟨k3, k4⟩ := Opt.fits_short os k2
      have hw := Opt.wires_ge os
      have hb := Ctl.body_both c i os d h4
      rw [hb, List.length_append] at h5
      refine ⟨h1, h2, by omega, fun o ho => ?_, fun o ho => ?_, by omega⟩
      · have := List.all_eq_true.1 k1 o ho
        simpa [Opt.kindOk] using this
      · have := List.all_eq_true.1 k3 o ho
        simpa [Opt.short] using this
theorem small_judge (own : Pol.Lk) (os : List Opt.Op) (h : (∀ o ∈ os, 0 ≤ o.1 ∧ o.1 ≤ 255) ∧ (∀ o ∈ os, o.2.length ≤ 253)) (hl : os.length ≤ 1000000) (c i : Int) : Small [(c, i, (Pol.judge Pl.nm own os).2.1, [])] := by
  have hr : ∀ n, n ≤ os.length → (Pol.rejs own os n).length ≤ n ∧ ∀ o ∈ Pol.rejs own os n, o ∈ os := by
    intro n
    induction n with
    | zero => intro _; exact ⟨Nat.le_refl _, fun o ho => (by cases ho)⟩
    | succ k ih =>
      intro hk
      obtain ⟨i1, i2⟩ := ih (by omega)
      show (Pol.rejs own os k ++ (if Pol.bad own os k then [Pol.g os k] else [])).length ≤ k + 1 ∧ ∀ o ∈ Pol.rejs own os k ++ (if Pol.bad own os k then [Pol.g os k] else []), o ∈ os
      constructor
      · rw [List.length_append]; split <;> simp <;> omega
      · intro o ho
        rcases List.mem_append.1 ho with ho | ho
        · exact i2 o ho
        · split at ho
          · obtain rfl := List.mem_singleton.1 ho
            exact Pol.g_mem os k (by omega)
          · cases ho
  have hbl : ∀ j n, (Pol.be j n).length = j := Pol.be_length
  have hn : ∀ n, (Pol.naks Pl.nm own os n).length ≤ n ∧ ∀ o ∈ Pol.naks Pl.nm own os n, (0 ≤ o.1 ∧ o.1 ≤ 255) ∧ o.2.length ≤ 253 := by
    have hb : ∀ x o, Pol.better Pl.nm own x = some o → (0 ≤ o.1 ∧ o.1 ≤ 255) ∧ o.2.length ≤ 253 := by
      intro x o hx
      unfold Pol.better at hx
      split at hx
      · next hq =>
        cases hx
        refine ⟨?_, by rw [hbl]; omega⟩
        rcases hq.1 with e | e <;> rw [e] <;> decide
      · split at hx
        · next hq =>
          cases hx
          refine ⟨?_, by rw [hbl]; omega⟩
          rw [hq.1]; decide
        · cases hx
    intro n
    induction n with
    | zero => exact ⟨Nat.le_refl _, fun o ho => (by cases ho)⟩
    | succ k ih =>
      obtain ⟨i1, i2⟩ := ih
      show (Pol.naks Pl.nm own os k ++ (if Pol.bad own os k then [] else (Pol.better Pl.nm own (Pol.g os k)).toList)).length ≤ k + 1 ∧ ∀ o ∈ Pol.naks Pl.nm own os k ++ (if Pol.bad own os k then [] else (Pol.better Pl.nm own (Pol.g os k)).toList), (0 ≤ o.1 ∧ o.1 ≤ 255) ∧ o.2.length ≤ 253
      cases hq : Pol.better Pl.nm own (Pol.g os k) with
      | none =>
        constructor
        · rw [List.length_append]; split <;> simp <;> omega
        · intro o ho
          rcases List.mem_append.1 ho with ho | ho
          · exact i2 o ho
          · split at ho <;> simp at ho
      | some y =>
        constructor
        · rw [List.length_append]; split <;> simp <;> omega
        · intro o ho
          rcases List.mem_append.1 ho with ho | ho
          · exact i2 o ho
          · split at ho
            · cases ho
            · obtain rfl : o = y := by simpa using ho
              exact hb _ _ hq
  intro q hq
  obtain rfl := List.mem_singleton.1 hq
  show (Pol.judge Pl.nm own os).2.1.length ≤ 1000000 ∧ (∀ o ∈ (Pol.judge Pl.nm own os).2.1, 0 ≤ o.1 ∧ o.1 ≤ 255) ∧ (∀ o ∈ (Pol.judge Pl.nm own os).2.1, o.2.length ≤ 1000000)
  unfold Pol.judge
  split
  · split
    · obtain ⟨r1, r2⟩ := hr os.length (Nat.le_refl _)
      exact ⟨by show (Pol.rejs own os os.length).length ≤ _; omega, fun o ho => h.1 o (r2 o ho), fun o ho => by have := h.2 o (r2 o ho); omega⟩
    · split
      · obtain ⟨r1, r2⟩ := hn os.length
        exact ⟨by show (Pol.naks Pl.nm own os os.length).length ≤ _; omega, fun o ho => (r2 o ho).1, fun o ho => by have := (r2 o ho).2; omega⟩
      · exact ⟨hl, h.1, fun o ho => by have := h.2 o ho; omega⟩
  · exact ⟨Nat.zero_le _, fun o ho => (by cases ho), fun o ho => (by cases ho)⟩
section
variable (n B : Nat) (m : Mem) (i : Int) (v : Value) (os : List Opt.Op) (d x : List UInt8) (w : World) (h : Rg B w m) (hf : m.Fit) (hr : ReadsO w v os) (hB : B < n) (hn : n ≤ w.heap.size) (ST : U.StepOk w)
set_option maxHeartbeats 1600000
/-- The packet in its box. -/
structure Bx (w w1 : World) (r : Rk) : Prop where
  bel : Below w.heap.size w w1
  arr : Arr w.heap.size w1 (pcs r)
theorem bx_new (w : World) (r : Rk) : Bx w (w.alloc (.cells (pcs r).toArray 36)) r := ⟨(Below.refl _ w).alloc (Nat.le_refl _) _, Arr.new w _ _⟩
include h hf hB hn ST in
/-- An event without an answer. -/
theorem bare_come (c ev : Int) (hev : 0 ≤ ev ∧ ev ≤ 15) : ∀ w1, Bx w w1 (c, i, v, d) → Calls Tryz.prog 34 #[.pointer (some ⟨B, 0, none⟩), .int .i64 ev, .slice none 0 0] w1 (TakePost n B w (Ng.mrun m ev [])) := by
  intro w1 k
  refine (come_any n B B m ev _ [] w1 (h.below k.bel) hf (Ans.nil _ _ _) (.inl ⟨rfl, rfl⟩) hB (Nat.le_trans hn k.bel.size) (h.below k.bel).lt Small.nil hev (ST.later k.bel)).mono ?_
  rintro e w4 ⟨v4, rfl, hp, hr, hc⟩
  exact ⟨v4, rfl, hp, hr, two_base hc (Chg.of_below k.bel) (.inl rfl)⟩
include h hf hB hn ST in
/-- An event with an answer that was just laid. -/
theorem lit_come (c ev : Int) (hev : 0 ≤ ev ∧ ev ≤ 15) (q : Ctl.Pk) (u : Value) (hs : Small [q]) : ∀ w1 w2, Bx w w1 (c, i, v, d) → Below w1.heap.size w1 w2 → Row n w2 u q.2.2.1 → Calls Tryz.prog 34 #[.pointer (some ⟨B, 0, none⟩), .int .i64 ev, .slice (some ⟨w2.heap.size, 0, none⟩) 1 1] (w2.alloc (.cells (pcs (q.1, q.2.1, u, q.2.2.2)).toArray 36)) fun e w' => TakePost n B w (Ng.mrun m ev [q]) e w' ∧ Chg (Two B w2.heap.size) (w2.alloc (.cells (pcs (q.1, q.2.1, u, q.2.2.2)).toArray 36)) w' := by
  intro w1 w2 k hb hu
  have hb2 := bel2 k.bel hb
  have hb3 := hb2.alloc hb2.size (.cells (pcs (q.1, q.2.1, u, q.2.2.2)).toArray 36)
  have hlt := (h.below k.bel).lt
  have hz := hb.size
  have hz2 := hb2.size
  refine (come_any n w2.heap.size B m ev _ [q] _ (h.below hb3) hf (Ans.lit hu (Nat.le_trans hn hz2) _ rfl) (.inr ⟨by simp, by omega⟩) hB (Nat.le_trans hn hb3.size) (by simp) hs hev (ST.later hb3)).mono ?_
  rintro e w4 ⟨v4, rfl, hp, hr, hc⟩
  exact ⟨⟨v4, rfl, hp, hr, two_base hc (Chg.of_below hb3) (.inr hz2)⟩, hc⟩
end
end Go.Proofs.YteabkmelnoefiaaGreatDoor.Ne
namespace Go.Proofs.YteabkmelnoefiaaGreatDoor.Ne
open Go.RowKit
set_option maxRecDepth 100000
section
variable (n B : Nat) (m : Mem) (i : Int) (v : Value) (os : List Opt.Op) (d x : List UInt8) (w : World) (h : Rg B w m) (hf : m.Fit) (hr : ReadsO w v os) (hB : B < n) (hn : n ≤ w.heap.size) (ST : U.StepOk w)
set_option maxHeartbeats 3200000
include h hf hB hn ST in
/-- Codes whose event brings no answer. -/
theorem receive_bare (c ev : Int) (hc : (c = 6 ∧ ev = 11) ∨ (c = 7 ∧ ev = 13) ∨ (c = 8 ∧ ev = 13) ∨ (c = 10 ∧ ev = 15) ∨ (c = 11 ∧ ev = 15)) :
    Calls Tryz.prog 41 #[.pointer (some ⟨B, 0, none⟩), .agg (pcs (c, i, v, d)).toArray, .string ⟨x.toArray⟩] w (TakePost n B w (Ng.mrun m ev [])) := by
  have HC := Lib.hid (bare_come n B m i v d w h hf hB hn ST c ev (by rcases hc with ⟨_, rfl⟩ | ⟨_, rfl⟩ | ⟨_, rfl⟩ | ⟨_, rfl⟩ | ⟨_, rfl⟩ <;> decide))
  obtain ⟨R, hR⟩ : ∃ R, R = Ng.mrun m ev [] := ⟨_, rfl⟩
  rw [← hR] at HC ⊢
  clear h hf ST hR
  obtain ⟨w1, hw1⟩ : ∃ w1, w1 = w.alloc (.cells (pcs (c, i, v, d)).toArray 36) := ⟨_, rfl⟩
  have BX : Hid (Bx w w1 (c, i, v, d)) := Lib.hid (hw1 ▸ bx_new w (c, i, v, d))
  have CC := Lib.hid (HC.out w1 BX.out)
  have k0 := BX.out.arr.cell 0 _ rfl
  have zA := BX.out.arr.lt
  rcases hc with ⟨rfl, rfl⟩ | ⟨rfl, rfl⟩ | ⟨rfl, rfl⟩ | ⟨rfl, rfl⟩ | ⟨rfl, rfl⟩
  all_goals
    go_enter Tryz.func41, Tryz.ntmps41
    go_upto_region 1 with (fail)
    rw [← hw1]
    clear hw1
    go_wp2_with (go_at_call 34; (refine CC.out.mono ?_); rintro e w4 ⟨v4, rfl, hp, hr4, hc4⟩; have HP := Lib.hid hp; have HR := Lib.hid hr4; have HD := Lib.hid hc4; clear hp hr4 hc4)
    go_ret2
    exact ⟨_, rfl, HP.out, HR.out, HD.out⟩
include h hf hB hn ST in
/-- The other side closes. -/
theorem receive_term : Calls Tryz.prog 41 #[.pointer (some ⟨B, 0, none⟩), .agg (pcs (5, i, v, d)).toArray, .string ⟨x.toArray⟩] w (TakePost n B w (Ng.mrun m 10 [(6, i, [], [])])) := by
  have HC := Lib.hid (lit_come n B m i v d w h hf hB hn ST 5 10 (by decide) (6, i, [], []) (.slice none 0 0) (fun q hq => by obtain rfl := List.mem_singleton.1 hq; exact ⟨Nat.zero_le _, fun o ho => (by cases ho), fun o ho => (by cases ho)⟩))
  obtain ⟨R, hR⟩ : ∃ R, R = Ng.mrun m 10 [(6, i, [], [])] := ⟨_, rfl⟩
  rw [← hR] at HC ⊢
  clear h hf ST hR
  obtain ⟨w1, hw1⟩ : ∃ w1, w1 = w.alloc (.cells (pcs (5, i, v, d)).toArray 36) := ⟨_, rfl⟩
  have BX : Hid (Bx w w1 (5, i, v, d)) := Lib.hid (hw1 ▸ bx_new w (5, i, v, d))
  have CC := Lib.hid (HC.out w1 w1 BX.out (Below.refl _ _) (Row.nil n w1))
  have k0 := BX.out.arr.cell 0 _ rfl
  have k1 := BX.out.arr.cell 1 _ rfl
  have zA := BX.out.arr.lt
  go_enter Tryz.func41, Tryz.ntmps41
  go_upto_region 1 with (fail)
  rw [← hw1]
  clear hw1
  go_wp2_with (go_at_call 34; (refine CC.out.mono ?_); rintro e w4 ⟨⟨v4, rfl, hp, hr4, hc4⟩, _⟩; have HP := Lib.hid hp; have HR := Lib.hid hr4; have HD := Lib.hid hc4; clear hp hr4 hc4)
  go_ret2
  exact ⟨_, rfl, HP.out, HR.out, HD.out⟩
include h hf hB hn ST in
/-- An echo's request. -/
theorem receive_echo (hd : d.length ≤ 2048) : Calls Tryz.prog 41 #[.pointer (some ⟨B, 0, none⟩), .agg (pcs (9, i, v, d)).toArray, .string ⟨x.toArray⟩] w (TakePost n B w (Ng.mrun m 15 [(10, i, [], d)])) := by
  have HC := Lib.hid (lit_come n B m i v d w h hf hB hn ST 9 15 (by decide) (10, i, [], d) (.slice none 0 0) (fun q hq => by obtain rfl := List.mem_singleton.1 hq; exact ⟨Nat.zero_le _, fun o ho => (by cases ho), fun o ho => (by cases ho)⟩))
  obtain ⟨R, hR⟩ : ∃ R, R = Ng.mrun m 15 [(10, i, [], d)] := ⟨_, rfl⟩
  rw [← hR] at HC ⊢
  clear h hf ST hR
  have CL := Lib.hid fun W => clone_any ⟨d.toArray⟩ W (by rw [sz]; omega)
  obtain ⟨w1, hw1⟩ : ∃ w1, w1 = w.alloc (.cells (pcs (9, i, v, d)).toArray 36) := ⟨_, rfl⟩
  have BX : Hid (Bx w w1 (9, i, v, d)) := Lib.hid (hw1 ▸ bx_new w (9, i, v, d))
  have k0 := BX.out.arr.cell 0 _ rfl
  have zA := BX.out.arr.lt
  have SJ : Hid (∀ a, Chg (fun k => w1.heap.size ≤ k ∨ k = B) w1 a → a.cell? ⟨w.heap.size, 1, none⟩ = some (.int .i64 i) ∧ a.cell? ⟨w.heap.size, 3, none⟩ = some (.string ⟨d.toArray⟩)) := Lib.hid fun a k => by
    have hne : ¬ (w1.heap.size ≤ w.heap.size ∨ w.heap.size = B) := by omega
    have := BX.out.arr.chg k hne
    exact ⟨this.cell 1 _ rfl, this.cell 3 _ rfl⟩
  have C0 : Hid (Chg (fun k => w1.heap.size ≤ k ∨ k = B) w1 w1.drew) := Lib.hid (Chg.of_below (Below.refl w1.heap.size w1).drew)
  go_enter Tryz.func41, Tryz.ntmps41
  go_upto_region 1 with (fail)
  rw [← hw1]
  clear hw1
  go_wp2_with fail
  go_region_held (fun a => a.cell? ⟨w.heap.size, 1, none⟩ = some (.int .i64 i) ∧ a.cell? ⟨w.heap.size, 3, none⟩ = some (.string ⟨d.toArray⟩))
    (with_reducible (first | assumption | exact hS5 | exact hS6 | exact hS7 | exact SJ.out _ C0.out))
    (first
      | (go_at_call 50; (refine (CL.out _).mono ?_); rintro e w5 ⟨rfl, hb⟩; have hb5 : Below w1.heap.size w1 w5 := ⟨hb.os, hb.tape, hb.output, hb.size, hb.block⟩; have hS5 := SJ.out w5 (Chg.of_below hb5); have hS6 := SJ.out _ (Chg.of_below (hb5.alloc hb5.size (.cells #[.int .i64 10, .int .i64 i, .slice none 0 0, .string ⟨d.toArray⟩] 36))); have CC := Lib.hid (HC.out w1 w5 BX.out hb5 (Row.nil n w5)); have C5 : Hid (Chg (fun k => w1.heap.size ≤ k ∨ k = B) w1 (w5.alloc (.cells #[.int .i64 10, .int .i64 i, .slice none 0 0, .string ⟨d.toArray⟩] 36))) := Lib.hid (Chg.of_below (hb5.alloc hb5.size _)); have z5 := hb5.size; clear hb hb5)
      | (go_at_call 34; (refine CC.out.mono ?_); rintro e w7 ⟨⟨v7, rfl, hp, hr7, hc7⟩, hk⟩; have hS7 := SJ.out w7 (hk.base C5.out fun k _ e => e.elim .inr fun e => .inl (by omega)); have HP := Lib.hid hp; have HR := Lib.hid hr7; have HD := Lib.hid hc7; clear hp hr7 hc7 hk))
  go_wp2_with fail
  go_ret2
  exact ⟨_, rfl, HP.out, HR.out, HD.out⟩
end
end Go.Proofs.YteabkmelnoefiaaGreatDoor.Ne
namespace Go.Proofs.YteabkmelnoefiaaGreatDoor.Ne
open Go.RowKit
set_option maxRecDepth 100000
section
variable (n B : Nat) (m : Mem) (i : Int) (v : Value) (os : List Opt.Op) (d x : List UInt8) (w : World) (h : Rg B w m) (hf : m.Fit) (hr : ReadsO w v os) (hB : B < n) (hn : n ≤ w.heap.size) (ST : U.StepOk w)
set_option maxHeartbeats 3200000
include h hf hr hB hn ST in
/-- A request. -/
theorem receive_req (hl : os.length ≤ 1000000) (hs : (∀ o ∈ os, 0 ≤ o.1 ∧ o.1 ≤ 255) ∧ (∀ o ∈ os, o.2.length ≤ 253)) :
    Calls Tryz.prog 41 #[.pointer (some ⟨B, 0, none⟩), .agg (pcs (1, i, v, d)).toArray, .string ⟨x.toArray⟩] w
      (TakePost n B w (Ng.mrun m (if (Pol.judge Pl.nm m.own os).1 = 0 then 6 else 7) [(Ng.verdict (Pol.judge Pl.nm m.own os).1, i, (Pol.judge Pl.nm m.own os).2.1, [])])) := by
  have HS := Lib.hid (small_judge m.own os hs hl (Ng.verdict (Pol.judge Pl.nm m.own os).1) i)
  have HJ := Lib.hid fun W (h : Rg B W m) (hr : ReadsO W v os) => judge_any B m 1 i v os d W h hr hl
  obtain ⟨J, hJ⟩ : ∃ J, J = Pol.judge Pl.nm m.own os := ⟨_, rfl⟩
  rw [← hJ] at HS HJ ⊢
  obtain ⟨K, hK⟩ : ∃ K, K = J.2.1 := ⟨_, rfl⟩
  rw [← hK] at HS ⊢
  obtain ⟨c, hc⟩ : ∃ c, c = Ng.verdict J.1 := ⟨_, rfl⟩
  rw [← hc] at HS ⊢
  obtain ⟨ev, hev⟩ : ∃ ev : Int, ev = if J.1 = 0 then 6 else 7 := ⟨_, rfl⟩
  rw [← hev] at ⊢
  have HC := Lib.hid fun u => lit_come n B m i v d w h hf hB hn ST 1 ev (by rw [hev]; split <;> decide) (c, i, K, []) u HS.out
  have HJ : Hid (∀ W, Rg B W m → ReadsO W v os → Calls Tryz.prog 61 #[.pointer (some ⟨B, 0, none⟩), .agg (pcs (1, i, v, d)).toArray] W fun e w' => ∃ u, e = .returned (.tuple #[.int .i64 ev, .agg #[.int .i64 c, .int .i64 i, u, .string ⟨#[]⟩]]) ∧ OwnsO W w' u K) := Lib.hid (by rw [hev, hc, hK]; exact HJ.out)
  obtain ⟨R, hR⟩ : ∃ R, R = Ng.mrun m ev [(c, i, K, [])] := ⟨_, rfl⟩
  rw [← hR] at HC ⊢
  obtain ⟨w1, hw1⟩ : ∃ w1, w1 = w.alloc (.cells (pcs (1, i, v, d)).toArray 36) := ⟨_, rfl⟩
  have BX : Hid (Bx w w1 (1, i, v, d)) := Lib.hid (hw1 ▸ bx_new w (1, i, v, d))
  have J1 := Lib.hid (HJ.out w1 (h.below BX.out.bel) (hr.below BX.out.bel))
  have k0 := BX.out.arr.cell 0 _ rfl
  have k1 := BX.out.arr.cell 1 _ rfl
  have k2 := BX.out.arr.cell 2 _ rfl
  have k3 := BX.out.arr.cell 3 _ rfl
  have zA := BX.out.arr.lt
  have HN := Lib.hid (Nat.le_trans hn BX.out.bel.size)
  clear h hf ST hR hev hc hK hJ HJ hs
  obtain ⟨pv, cv, _, _, ev0, _⟩ := hr.at
  subst ev0
  go_enter Tryz.func41, Tryz.ntmps41
  go_upto_region 1 with (fail)
  rw [← hw1]
  clear hw1
  go_wp2_with (first
    | (go_at_call 61; (refine J1.out.mono ?_); rintro e w5 ⟨u, rfl, ho⟩; obtain ⟨pu, cu, hu⟩ := ho.form2; subst hu; have CC := Lib.hid (HC.out _ w1 w5 BX.out ho.2 ((Row.of_owns ho).mono HN.out)); clear ho)
    | (go_at_call 34; (refine CC.out.mono ?_); rintro e w4 ⟨⟨v4, rfl, hp, hr4, hc4⟩, _⟩; have HP := Lib.hid hp; have HR := Lib.hid hr4; have HD := Lib.hid hc4; clear hp hr4 hc4))
  go_ret2
  exact ⟨_, rfl, HP.out, HR.out, HD.out⟩
include h hf hB hn ST in
/-- A code that is unknown. -/
theorem receive_odd (c : Int) (hc : c < 1 ∨ 11 < c) : Calls Tryz.prog 41 #[.pointer (some ⟨B, 0, none⟩), .agg (pcs (c, i, v, d)).toArray, .string ⟨x.toArray⟩] w (TakePost n B w (Ng.mrun m 12 [(7, 0, [], x.take 64)])) := by
  have HC := Lib.hid (lit_come n B m i v d w h hf hB hn ST c 12 (by decide) (7, 0, [], x.take 64) (.slice none 0 0) (fun q hq => by obtain rfl := List.mem_singleton.1 hq; exact ⟨Nat.zero_le _, fun o ho => (by cases ho), fun o ho => (by cases ho)⟩))
  obtain ⟨R, hR⟩ : ∃ R, R = Ng.mrun m 12 [(7, 0, [], x.take 64)] := ⟨_, rfl⟩
  rw [← hR] at HC ⊢
  have CL := Lib.hid fun W => clone_any ⟨(x.take 64).toArray⟩ W (by rw [sz, List.length_take]; omega)
  obtain ⟨w1, hw1⟩ : ∃ w1, w1 = w.alloc (.cells (pcs (c, i, v, d)).toArray 36) := ⟨_, rfl⟩
  have BX : Hid (Bx w w1 (c, i, v, d)) := Lib.hid (hw1 ▸ bx_new w (c, i, v, d))
  have k0 := BX.out.arr.cell 0 _ rfl
  have zA := BX.out.arr.lt
  have q1 : (c == 1) = false := by rw [beq_eq_false_iff_ne]; omega
  have q2 : (c == 2) = false := by rw [beq_eq_false_iff_ne]; omega
  have q3 : (c == 3) = false := by rw [beq_eq_false_iff_ne]; omega
  have q4 : (c == 4) = false := by rw [beq_eq_false_iff_ne]; omega
  have q5 : (c == 5) = false := by rw [beq_eq_false_iff_ne]; omega
  have q6 : (c == 6) = false := by rw [beq_eq_false_iff_ne]; omega
  have q7 : (c == 7) = false := by rw [beq_eq_false_iff_ne]; omega
  have q8 : (c == 8) = false := by rw [beq_eq_false_iff_ne]; omega
  have q9 : (c == 9) = false := by rw [beq_eq_false_iff_ne]; omega
  have q10 : (c == 10) = false := by rw [beq_eq_false_iff_ne]; omega
  have q11 : (c == 11) = false := by rw [beq_eq_false_iff_ne]; omega
  have hsz := sz x
  clear h hf ST hR hc
  have e : (ByteArray.mk x.toArray).extract 0 (min (x.length : Int) 64).toNat = ⟨(x.take 64).toArray⟩ := by
    rw [cut_list, List.drop_zero]
    congr 2
    by_cases hx : x.length ≤ 64
    · rw [show (min (x.length : Int) 64).toNat = x.length by omega, List.take_length, List.take_of_length_le hx]
    · rw [show (min (x.length : Int) 64).toNat = 64 by omega]
  go_enter Tryz.func41, Tryz.ntmps41
  go_upto_region 1 with (fail)
  rw [← hw1]
  clear hw1
  go_wp2_with (first
    | (go_at_call 50; (refine (CL.out _).mono ?_); rintro e v1 ⟨rfl, hb⟩; have CC := Lib.hid (HC.out w1 v1 BX.out hb (Row.nil n v1)); clear hb)
    | (go_at_call 34; (refine CC.out.mono ?_); rintro e w4 ⟨⟨v4, rfl, hp, hr4, hc4⟩, _⟩; have HP := Lib.hid hp; have HR := Lib.hid hr4; have HD := Lib.hid hc4; clear hp hr4 hc4))
  go_ret2
  exact ⟨_, rfl, HP.out, HR.out, HD.out⟩
include h hf hr hB hn ST in
/-- An ack: of the last request, or of another. -/
theorem receive_ack (hl : os.length ≤ 1000000) :
    Calls Tryz.prog 41 #[.pointer (some ⟨B, 0, none⟩), .agg (pcs (2, i, v, d)).toArray, .string ⟨x.toArray⟩] w
      (TakePost n B w (if m.sent = true ∧ m.sid = i ∧ (Pol.ask m.link).1 = os then Ng.mrun m 8 [] else (m, [], 0))) := by
  have HC := Lib.hid (bare_come n B m i v d w h hf hB hn ST 2 8 (by decide))
  have HA := Lib.hid fun W (hr : ReadsO W v os) => acked_any m 2 i v os ⟨d.toArray⟩ W hr (by omega)
  obtain ⟨w1, hw1⟩ : ∃ w1, w1 = w.alloc (.cells (pcs (2, i, v, d)).toArray 36) := ⟨_, rfl⟩
  have BX : Hid (Bx w w1 (2, i, v, d)) := Lib.hid (hw1 ▸ bx_new w (2, i, v, d))
  have R1 := Lib.hid (h.below BX.out.bel)
  have HR1 := Lib.hid (hr.below BX.out.bel)
  have k0 := BX.out.arr.cell 0 _ rfl
  have zA := BX.out.arr.lt
  have zB := R1.out.lt
  obtain ⟨pv, cv, _, _, ev0, _⟩ := hr.at
  subst ev0
  have SJ : Hid (∀ a, Below w1.heap.size w1 a → a.cell? ⟨w.heap.size, 0, none⟩ = some (.int .i64 2) ∧ a.cell? ⟨w.heap.size, 1, none⟩ = some (.int .i64 i) ∧ a.cell? ⟨w.heap.size, 2, none⟩ = some (.slice pv os.length cv) ∧ a.cell? ⟨w.heap.size, 3, none⟩ = some (.string ⟨d.toArray⟩) ∧
      a.cell? ⟨B, 16, none⟩ = some (.bool m.sent) ∧ a.cell? ⟨B, 17, none⟩ = some (.int .i64 m.sid) ∧ a.cell? ⟨B, 18, none⟩ = some (.int .i64 m.link.mru) ∧ a.cell? ⟨B, 19, none⟩ = some (.int .i64 m.link.magic) ∧ a.cell? ⟨B, 20, none⟩ = some (.int .i64 m.link.mrru) ∧ a.cell? ⟨B, 21, none⟩ = some (.bool m.link.short) ∧ a.cell? ⟨B, 22, none⟩ = some (.string ⟨m.link.disc.toArray⟩) ∧ a.cell? ⟨B, 23, none⟩ = some (.int .i64 m.link.num)) :=
    Lib.hid fun a k => ⟨(BX.out.arr.below k).cell 0 _ rfl, (BX.out.arr.below k).cell 1 _ rfl, (BX.out.arr.below k).cell 2 _ rfl, (BX.out.arr.below k).cell 3 _ rfl, Arr.cell (R1.out.below k) 16 _ rfl, Arr.cell (R1.out.below k) 17 _ rfl, Arr.cell (R1.out.below k) 18 _ rfl, Arr.cell (R1.out.below k) 19 _ rfl, Arr.cell (R1.out.below k) 20 _ rfl, Arr.cell (R1.out.below k) 21 _ rfl, Arr.cell (R1.out.below k) 22 _ rfl, Arr.cell (R1.out.below k) 23 _ rfl⟩
  obtain ⟨b, hb⟩ : ∃ b, b = (m.sent && m.sid == i && decide ((Pol.ask m.link).1 = os)) := ⟨_, rfl⟩
  have A1 : Hid (Calls Tryz.prog 62 #[.agg #[.bool m.sent, .int .i64 m.sid, .int .i64 m.link.mru, .int .i64 m.link.magic, .int .i64 m.link.mrru, .bool m.link.short, .string ⟨m.link.disc.toArray⟩, .int .i64 m.link.num], .agg #[.int .i64 2, .int .i64 i, .slice pv os.length cv, .string ⟨d.toArray⟩]] w1.drew fun e w' => e = .returned (.bool b) ∧ Below w1.heap.size w1 w') := Lib.hid (by
    refine (HA.out w1.drew HR1.out.drew).mono ?_
    rintro e w' ⟨rfl, k⟩
    exact ⟨by rw [hb], ⟨k.os, k.tape, k.output, k.size, k.block⟩⟩)
  have HQ : Hid (TakePost n B w (if m.sent = true ∧ m.sid = i ∧ (Pol.ask m.link).1 = os then Ng.mrun m 8 [] else (m, [], 0)) = TakePost n B w (if b = true then Ng.mrun m 8 [] else (m, [], 0))) := Lib.hid (by
    have e : (m.sent = true ∧ m.sid = i ∧ (Pol.ask m.link).1 = os) ↔ b = true := by rw [hb]; simp [and_assoc]
    by_cases hq : b = true
    · rw [if_pos hq, if_pos (e.2 hq)]
    · rw [if_neg hq, if_neg (fun k => hq (e.1 k))])
  rw [HQ.out]
  obtain ⟨R, hR⟩ : ∃ R, R = Ng.mrun m 8 [] := ⟨_, rfl⟩
  rw [← hR] at HC ⊢
  have H0 := Lib.hid h
  clear h hf ST hR hb HA HQ
  cases b
  · rw [if_neg (by decide)]
    go_enter Tryz.func41, Tryz.ntmps41
    go_upto_region 1 with (fail)
    rw [← hw1]
    clear hw1
    go_wp2_with fail
    go_region_held (fun a => a.cell? ⟨w.heap.size, 0, none⟩ = some (.int .i64 2) ∧ a.cell? ⟨w.heap.size, 1, none⟩ = some (.int .i64 i) ∧ a.cell? ⟨w.heap.size, 2, none⟩ = some (.slice pv os.length cv) ∧ a.cell? ⟨w.heap.size, 3, none⟩ = some (.string ⟨d.toArray⟩) ∧
      a.cell? ⟨B, 16, none⟩ = some (.bool m.sent) ∧ a.cell? ⟨B, 17, none⟩ = some (.int .i64 m.sid) ∧ a.cell? ⟨B, 18, none⟩ = some (.int .i64 m.link.mru) ∧ a.cell? ⟨B, 19, none⟩ = some (.int .i64 m.link.magic) ∧ a.cell? ⟨B, 20, none⟩ = some (.int .i64 m.link.mrru) ∧ a.cell? ⟨B, 21, none⟩ = some (.bool m.link.short) ∧ a.cell? ⟨B, 22, none⟩ = some (.string ⟨m.link.disc.toArray⟩) ∧ a.cell? ⟨B, 23, none⟩ = some (.int .i64 m.link.num))
      (with_reducible (first | assumption | exact hS5 | exact SJ.out _ (Below.refl _ w1).drew))
      (first | (go_at_call 62; (refine A1.out.mono ?_); rintro e w5 ⟨rfl, hb5⟩; have hS5 := SJ.out w5 hb5; have B5 := Lib.hid hb5; clear hb5))
    go_wp2_with fail
    go_ret2
    exact ⟨_, rfl, Packs.nil _ _, H0.out.below (bel2 BX.out.bel B5.out), Chg.of_below (bel2 BX.out.bel B5.out)⟩
  · rw [if_pos rfl]
    go_enter Tryz.func41, Tryz.ntmps41
    go_upto_region 1 with (fail)
    rw [← hw1]
    clear hw1
    go_wp2_with fail
    go_region_held (fun a => a.cell? ⟨w.heap.size, 0, none⟩ = some (.int .i64 2) ∧ a.cell? ⟨w.heap.size, 1, none⟩ = some (.int .i64 i) ∧ a.cell? ⟨w.heap.size, 2, none⟩ = some (.slice pv os.length cv) ∧ a.cell? ⟨w.heap.size, 3, none⟩ = some (.string ⟨d.toArray⟩) ∧
      a.cell? ⟨B, 16, none⟩ = some (.bool m.sent) ∧ a.cell? ⟨B, 17, none⟩ = some (.int .i64 m.sid) ∧ a.cell? ⟨B, 18, none⟩ = some (.int .i64 m.link.mru) ∧ a.cell? ⟨B, 19, none⟩ = some (.int .i64 m.link.magic) ∧ a.cell? ⟨B, 20, none⟩ = some (.int .i64 m.link.mrru) ∧ a.cell? ⟨B, 21, none⟩ = some (.bool m.link.short) ∧ a.cell? ⟨B, 22, none⟩ = some (.string ⟨m.link.disc.toArray⟩) ∧ a.cell? ⟨B, 23, none⟩ = some (.int .i64 m.link.num))
      (with_reducible (first | assumption | exact hS5 | exact SJ.out _ (Below.refl _ w1).drew))
      (first | (go_at_call 62; (refine A1.out.mono ?_); rintro e w5 ⟨rfl, hb5⟩; have hS5 := SJ.out w5 hb5; have BX5 : Hid (Bx w w5 (2, i, .slice pv os.length cv, d)) := Lib.hid ⟨bel2 BX.out.bel hb5, BX.out.arr.below hb5⟩; have CC := Lib.hid (HC.out w5 BX5.out); clear hb5))
    go_wp2_with (go_at_call 34; (refine CC.out.mono ?_); rintro e w4 ⟨v4, rfl, hp, hr4, hc4⟩; have HP := Lib.hid hp; have HR := Lib.hid hr4; have HD := Lib.hid hc4; clear hp hr4 hc4)
    go_ret2
    exact ⟨_, rfl, HP.out, HR.out, HD.out⟩
end
end Go.Proofs.YteabkmelnoefiaaGreatDoor.Ne
