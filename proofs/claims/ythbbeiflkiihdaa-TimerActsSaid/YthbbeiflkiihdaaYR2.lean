/-
  The document's own timers: one stopped.
-/
import Derived.Test.YthbbeiflkiihdaaYR1
import Derived.Test.YthbbeiflkiihdaaTmx
namespace Go.Proofs.Ythbbeiflkiihdaa.Y
open Go.RowKit
/-- The document's machine over a sorted list. -/
structure Rm (B : Nat) (v : Value) (w : World) (S : List Tim.T) : Prop where
  ok : Tim.Ok S
  rf : Rf B v w S
theorem Rm.below {B : Nat} {v : Value} {w w' : World} {S : List Tim.T} (h : Rm B v w S) (hb : Below w.heap.size w w') : Rm B v w' S := ⟨h.ok, h.rf.below hb⟩
/-- The machine's slice is another one, all new. -/
theorem mv_anew {B : Nat} {v v3 : Value} {w w3 : World} (hb : Below w.heap.size w w3) (u : Value) (hrow : ∀ k, v3.ownBlock = some k → w.heap.size ≤ k) : Mv B v v3 w (w3.setCell ⟨B, 0, none⟩ u) :=
  ⟨hb.os, hb.tape, hb.output, by simpa using hb.size, fun k hk hB _ => (Below.heap_setCell w3 ⟨B, 0, none⟩ u k hB).trans (hb.block k hk), fun k hk => .inr (hrow k hk)⟩
theorem below_none {w w' : World} (g : w.grownBy w' none) : Below w.heap.size w w' := ⟨g.os, g.tape, g.output, g.size, fun k hk => g.block k hk (by simp)⟩
theorem Rm.anew {B : Nat} {v u : Value} {w w3 : World} {S A : List Tim.T} (h : Rf B v w S) (hb : Below w.heap.size w w3) (hA : Tim.Ok A) (hu : RowX (B + 1) w3 u A) : Rm B u (w3.setCell ⟨B, 0, none⟩ u) A :=
  ⟨hA, ⟨by have := (h.box.below hb).set 0 u; simpa using this, hu.setBox 0 u⟩⟩
/-- What a call that answers a number leaves. -/
def RefPost (B : Nat) (v : Value) (w : World) (r : List Tim.T × Int) (e : Ending) (w' : World) : Prop := e = .returned (.int .i64 r.2) ∧ ∃ v', Rm B v' w' r.1 ∧ Mv B v v' w w'
set_option maxHeartbeats 1600000 in
theorem rstop_none (B : Nat) (v : Value) (S : List Tim.T) (id : Int) (w : World) (h : Rm B v w S) (hh : Tim.has S id = false) :
    Calls Try.prog 9 #[.pointer (some ⟨B, 0, none⟩), .int .i64 id] w (RefPost B v w (S, 1101)) := by
  have H := Lib.hid h
  have HP := place_any B v S id w h.rf h.ok.few
  rw [Tim.spot_none id S 0 hh] at HP
  have HP := Lib.hid HP
  clear h hh
  go_enter Try.func9, Try.ntmps9
  go_wp2_with fail
  refine HP.out.mono ?_
  unfold spotI
  rintro e w1 ⟨rfl, hb⟩
  have HB := Lib.hid hb
  clear hb
  go_wp2_with fail
  go_ret
  exact ⟨rfl, v, H.out.below HB.out, Mv.of_below HB.out B v⟩
set_option maxHeartbeats 1600000 in
theorem rstop_there (B : Nat) (v : Value) (S : List Tim.T) (id : Int) (w : World) (h : Rm B v w S) (hh : Tim.has S id = true) :
    Calls Try.prog 9 #[.pointer (some ⟨B, 0, none⟩), .int .i64 id] w (RefPost B v w (Tim.del S id, 0)) := by
  have H := Lib.hid h
  obtain ⟨j, hj, hjl, hdel⟩ := Tim.spot_some id S 0 hh
  have hdel := hdel h.ok.ids
  have HP := place_any B v S id w h.rf h.ok.few
  rw [hj, Nat.zero_add] at HP
  have HP := Lib.hid HP
  have HD := Lib.hid hdel
  have hfew := h.ok.few
  obtain ⟨G, cap, rfl, _, hcap, _⟩ := h.rf.arr.full (by omega)
  clear h hh hj hdel
  go_enter Try.func9, Try.ntmps9
  go_wp2_with fail
  refine HP.out.mono ?_
  unfold spotI
  rintro e w1 ⟨rfl, hb⟩
  have HR := Lib.hid (H.out.below hb)
  have HB := Lib.hid hb
  have c0 := HR.out.rf.box.cell 0 _ rfl
  have q0 : decide ((j : Int) < 0) = false := decide_eq_false (by omega)
  have hz1 : B + 1 ≤ w1.heap.size := HR.out.rf.lt
  have R1 := HR.out.rf.arr.readsTake j (by omega) cap
  have RD : ∀ (w2 : World), Rm B (.slice (some ⟨G, 0, none⟩) S.length cap) w2 S → ReadsX w2 (.slice (some ⟨G, (j + 1) * 2, none⟩) (S.length - (j + 1)) (cap - (j + 1))) (S.drop (j + 1)) := fun w2 h2 => by
    have := h2.rf.arr.readsDrop (j + 1) (cap - (j + 1))
    rwa [Nat.mul_comm] at this
  have RE : S.length = j + 1 → ∀ w2, ReadsX w2 (.slice (some ⟨G, 0, none⟩) 0 0) (S.drop (j + 1)) := fun e w2 => .inl ⟨List.drop_eq_nil_of_le (by omega), .inl ⟨⟨G, 0, none⟩, 0, rfl⟩⟩
  have hT : (S.take j).length = j := by rw [List.length_take]; omega
  have hD : (S.drop (j + 1)).length = S.length - (j + 1) := List.length_drop ..
  generalize S.take j = T at *
  generalize S.drop (j + 1) = D at *
  have HTD : Hid (T.length = j ∧ D.length = S.length - (j + 1)) := Lib.hid ⟨hT, hD⟩
  have R1 := Lib.hid R1
  have RD := Lib.hid RD
  have RE := Lib.hid RE
  have hl1 : ([] : List Tim.T).length + T.length ≤ 1000000 := by simp; omega
  have hl2 : ([] ++ T).length + D.length ≤ 1000000 := by simp; omega
  clear hb HP hT hD
  by_cases hcap2 : cap = j + 1
  · have hS : S.length = j + 1 := by omega
    subst hcap2
    go_wp2_with (first | (at_builtin; refine wp_catXs rfl _ _ rfl (B + 1) [] T (RowX.empty _ _) hz1 R1.out rfl rfl hl1 ?_; intro v2 w2 h2; have P2 := Lib.hid h2; have b2 := below_none h2.grown; have HR2 := Lib.hid (HR.out.below b2); have B2 := Lib.hid b2; have c2 := HR2.out.rf.box.cell 0 _ rfl; obtain ⟨p2, cap2, rfl⟩ := h2.row.form; have hz2 : B + 1 ≤ w2.heap.size := HR2.out.rf.lt; clear h2 b2) | (at_builtin; refine wp_catXs rfl _ _ rfl (B + 1) ([] ++ T) D P2.out.row hz2 (RE.out hS w2) rfl rfl hl2 ?_; intro v3 w3 h3; have b3 := Below.grown B2.out h3.grown B2.out.size (fun k hk => (P2.out.lies k hk).elim (fun e => by cases e) (fun e => e)); have B3 := Lib.hid b3; have x3 := HR.out.rf.box.below b3; have c3 := x3.cell 0 _ rfl; have fz := x3.2; have L3 : Hid (∀ k, v3.ownBlock = some k → w1.heap.size ≤ k) := Lib.hid (fun k hk => (h3.lies k hk).elim (fun e => (P2.out.lies k e).elim (fun e => by cases e) (fun e => e)) (fun e => Nat.le_trans B2.out.size e)); obtain ⟨p3, cap3, rfl⟩ := h3.row.form; have r3 := h3.row; simp only [List.nil_append, List.length_append] at r3 L3; have R3 := Lib.hid r3; clear h3 b3 x3 r3))
    go_ret
    refine ⟨rfl, _, ?_, mv_anew (bel2 HB.out B3.out) _ fun k hk => Nat.le_trans HB.out.size (L3.out k hk)⟩
    rw [HD.out]
    exact Rm.anew HR.out.rf B3.out (HD.out ▸ Tim.del_ok H.out.ok id) R3.out
  · have q9 : decide (cap = j + 1) = false := decide_eq_false hcap2
    go_wp2_with (first | (at_builtin; refine wp_catXs rfl _ _ rfl (B + 1) [] T (RowX.empty _ _) hz1 R1.out rfl rfl hl1 ?_; intro v2 w2 h2; have P2 := Lib.hid h2; have b2 := below_none h2.grown; have HR2 := Lib.hid (HR.out.below b2); have B2 := Lib.hid b2; have c2 := HR2.out.rf.box.cell 0 _ rfl; obtain ⟨p2, cap2, rfl⟩ := h2.row.form; have hz2 : B + 1 ≤ w2.heap.size := HR2.out.rf.lt; clear h2 b2) | (at_builtin; refine wp_catXs rfl _ _ rfl (B + 1) ([] ++ T) D P2.out.row hz2 (RD.out w2 HR2.out) rfl rfl hl2 ?_; intro v3 w3 h3; have b3 := Below.grown B2.out h3.grown B2.out.size (fun k hk => (P2.out.lies k hk).elim (fun e => by cases e) (fun e => e)); have B3 := Lib.hid b3; have x3 := HR.out.rf.box.below b3; have c3 := x3.cell 0 _ rfl; have fz := x3.2; have L3 : Hid (∀ k, v3.ownBlock = some k → w1.heap.size ≤ k) := Lib.hid (fun k hk => (h3.lies k hk).elim (fun e => (P2.out.lies k e).elim (fun e => by cases e) (fun e => e)) (fun e => Nat.le_trans B2.out.size e)); obtain ⟨p3, cap3, rfl⟩ := h3.row.form; have r3 := h3.row; simp only [List.nil_append, List.length_append] at r3 L3; have R3 := Lib.hid r3; clear h3 b3 x3 r3))
    go_ret
    refine ⟨rfl, _, ?_, mv_anew (bel2 HB.out B3.out) _ fun k hk => Nat.le_trans HB.out.size (L3.out k hk)⟩
    rw [HD.out]
    exact Rm.anew HR.out.rf B3.out (HD.out ▸ Tim.del_ok H.out.ok id) R3.out
end Go.Proofs.Ythbbeiflkiihdaa.Y
