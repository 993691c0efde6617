/-
  Contract of the program's Get of a message.
-/
import Derived.Test.YtkdlhonbpciceaaH2
import Derived.Test.YtkdlhonbpciceaaH3
import Derived.BigRegion
namespace Go.Proofs.Ytkdlhonbpciceaa.H
open Go.RowKit
/-- What stands while a message is read: the fields, the message so far, the result that nobody has written yet. -/
structure Inv (w W : World) (f : Chp.Fld) (cs : List Value) : Prop where
  fl : Fl (w.heap.size + 1) W f
  c : Box (w.heap.size + 1 + 1) W cs
  cz : ∀ o, W.frozen? ⟨w.heap.size + 1 + 1, o, none⟩ = false
  lt : w.heap.size + 1 + 1 < W.heap.size
  r : Box w.heap.size W [.int .i64 0, .int .i64 0, .string ⟨#[]⟩, .string ⟨#[]⟩]
  rz : ∀ o, W.frozen? ⟨w.heap.size, o, none⟩ = false
  bel : Below w.heap.size w W
theorem Inv.step {w W W' : World} {f f' : Chp.Fld} {cs : List Value} (h : Inv w W f cs) (k : Fl (w.heap.size + 1) W' f' ∧ W.grownBy W' (some (w.heap.size + 1))) : Inv w W' f' cs := by
  have hlt := h.lt
  have e2 : W'.heap[w.heap.size + 1 + 1]? = W.heap[w.heap.size + 1 + 1]? := k.2.block _ hlt (by simp)
  have e0 : W'.heap[w.heap.size]? = W.heap[w.heap.size]? := k.2.block _ (by omega) (by simp)
  exact ⟨k.1, h.c.grown k.2 (by simp), fun o => (World.frozen?_of_block (a := ⟨w.heap.size + 1 + 1, o, none⟩) e2).trans (h.cz o), Nat.lt_of_lt_of_le hlt k.2.size, h.r.grown k.2 (by simp),
    fun o => (World.frozen?_of_block (a := ⟨w.heap.size, o, none⟩) e0).trans (h.rz o), h.bel.grown k.2 (by omega) (fun j hj => by cases hj; omega)⟩
theorem Inv.set {w W : World} {f : Chp.Fld} {cs : List Value} (h : Inv w W f cs) (j : Nat) (hj : j < cs.length) (u : Value) : Inv w (W.setCell ⟨w.heap.size + 1 + 1, j, none⟩ u) f (cs.set j u) := by
  refine ⟨⟨h.fl.1.setCell (by simp) u, fun o => by rw [World.frozen?_setCell]; exact h.fl.2 o⟩, fun i x hi => ?_, fun o => by rw [World.frozen?_setCell]; exact h.cz o, by have := h.lt; simpa using this, h.r.setCell (show w.heap.size + 1 + 1 ≠ w.heap.size by omega) u, fun o => by rw [World.frozen?_setCell]; exact h.rz o, h.bel.setCell (show w.heap.size ≤ w.heap.size + 1 + 1 by omega) _⟩
  by_cases e : j = i
  · subst e
    rw [List.getElem?_set_self hj] at hi
    cases hi
    exact World.cell?_setCell_same _ _ _ (h.c j cs[j] (by simp [hj]))
  · rw [List.getElem?_set_ne e] at hi
    rw [World.cell?_setCell_other _ _ _ _ (by intro e2; injection e2 with _ e3; exact e e3)]
    exact h.c i x hi
theorem Inv.below {w W W' : World} {f : Chp.Fld} {cs : List Value} (h : Inv w W f cs) (k : Below W.heap.size W W') : Inv w W' f cs := h.step ⟨h.fl.below k, below_grown k _⟩
/-- A call on the fields. -/
abbrev Num1 (B k : Nat) (f g : Chp.Fld) (z : Int) : Prop := ∀ W, Fl B W f → Calls Try.prog 17 #[.pointer (some ⟨B, 0, none⟩), .int .i64 k] W fun e w' => e = .returned (.int .i64 z) ∧ Fl B w' g ∧ W.grownBy w' (some B)
abbrev Txt1 (B : Nat) (z : Int) (f g : Chp.Fld) (x : ByteArray) : Prop := ∀ W, Fl B W f → Calls Try.prog 19 #[.pointer (some ⟨B, 0, none⟩), .int .i64 z] W fun e w' => e = .returned (.string x) ∧ Fl B w' g ∧ W.grownBy w' (some B)
abbrev End1 (B : Nat) (z : Int) (f g : Chp.Fld) : Prop := ∀ W, Fl B W f → Calls Try.prog 18 #[.pointer (some ⟨B, 0, none⟩), .int .i64 z] W fun e w' => e = .returned (.tuple #[]) ∧ Fl B w' g ∧ W.grownBy w' (some B)
def MsgPost (r : Chp.Msg × Int) (w : World) (e : Ending) (w' : World) : Prop := e = .returned (.tuple #[.agg #[.int .i64 r.1.1, .int .i64 r.1.2.1, .string ⟨r.1.2.2.1.toArray⟩, .string ⟨r.1.2.2.2.toArray⟩], .int .i64 r.2]) ∧ Below w.heap.size w w'
theorem Inv.start (w : World) (l : List UInt8) : Inv w (((w.alloc (.cells #[.int .i64 0, .int .i64 0, .string ⟨#[]⟩, .string ⟨#[]⟩] 23)).alloc (.cells #[.string ⟨l.toArray⟩, .bool false] 44)).alloc (.cells #[.int .i64 0, .int .i64 0, .string ⟨#[]⟩, .string ⟨#[]⟩] 23)) (l, false) [.int .i64 0, .int .i64 0, .string ⟨#[]⟩, .string ⟨#[]⟩] := by
  refine ⟨⟨?_, ?_⟩, ?_, ?_, by simp, ?_, ?_, (((Below.refl _ w).alloc (Nat.le_refl _) _).alloc (by simp) _).alloc (by simp; omega) _⟩
  · exact ((Box.new (w.alloc (.cells #[.int .i64 0, .int .i64 0, .string ⟨#[]⟩, .string ⟨#[]⟩] 23)) [.string ⟨l.toArray⟩, .bool false] 44).at (n := w.heap.size + 1) (by simp)).alloc _
  · intro o; exact (alloc_frozen _ _ _ _ (by simp)).trans (new_frozen _ _ _ _ _ (by simp))
  · exact (Box.new _ [.int .i64 0, .int .i64 0, .string ⟨#[]⟩, .string ⟨#[]⟩] 23).at (n := w.heap.size + 1 + 1) (by simp)
  · intro o; exact new_frozen _ _ _ _ _ (by simp)
  · exact ((Box.new w [.int .i64 0, .int .i64 0, .string ⟨#[]⟩, .string ⟨#[]⟩] 23).alloc _).alloc _
  · intro o; exact (alloc_frozen _ _ _ _ (by simp; omega)).trans ((alloc_frozen _ _ _ _ (by simp)).trans (new_frozen _ _ _ _ _ rfl))
set_option maxHeartbeats 3200000 in
theorem get_none (l : List UInt8) (f1 f2 f3 f4 f7 : Chp.Fld) (a b k k4 q : Int) (n : List UInt8) (r : Chp.Msg × Int) (w : World) (hk : wrap64 (k - 4) = k4) (V : Hid (∀ W, Calls Try.prog 15 #[.int .i64 a] W fun e w' => e = .returned (.bool false) ∧ W = w'))
    (N1 : Hid (Num1 (w.heap.size + 1) 1 (l, false) f1 a)) (N2 : Hid (Num1 (w.heap.size + 1) 1 f1 f2 b)) (N3 : Hid (Num1 (w.heap.size + 1) 2 f2 f3 k)) (E : Hid (End1 (w.heap.size + 1) k4 f3 f4)) (T : Hid (Txt1 (w.heap.size + 1) (f4.1.length : Int) f4 f7 ⟨n.toArray⟩))
    (J : Hid (f7.2 = false → ∀ W, Calls Try.prog 14 #[.agg #[.int .i64 a, .int .i64 b, .string ⟨#[]⟩, .string ⟨n.toArray⟩]] W fun e w' => e = .returned (.int .i64 q) ∧ Below W.heap.size W w')) (hr : Hid (Chp.Way a b q [] n f7.2 r)) :
    Calls Try.prog 10 #[.string ⟨l.toArray⟩] w (MsgPost r w) := by
  have I0 := Lib.hid (Inv.start w l)
  go_enter Try.func10, Try.ntmps10
  go_wp2_with fail
  refine (N1.out _ I0.out.fl).mono ?_
  rintro e w1 ⟨rfl, h1⟩
  have I1 : Hid (Inv w w1 f1 _) := Lib.hid (I0.out.step h1)
  have J1 : Hid (Inv w (w1.setCell ⟨w.heap.size + 1 + 1, 0, none⟩ (.int .i64 a)) f1 [.int .i64 a, .int .i64 0, .string ⟨#[]⟩, .string ⟨#[]⟩]) := Lib.hid (I1.out.set 0 (by simp) _)
  have k0 := I1.out.c 0 _ rfl
  have z0 := I1.out.cz 0
  have y0 := I1.out.lt
  clear h1
  go_wp2_with fail
  clear k0 z0 y0
  refine (N2.out _ J1.out.fl).mono ?_
  rintro e w2 ⟨rfl, h1⟩
  have I2 : Hid (Inv w w2 f2 _) := Lib.hid (J1.out.step h1)
  have J2 : Hid (Inv w (w2.setCell ⟨w.heap.size + 1 + 1, 1, none⟩ (.int .i64 b)) f2 [.int .i64 a, .int .i64 b, .string ⟨#[]⟩, .string ⟨#[]⟩]) := Lib.hid (I2.out.set 1 (by simp) _)
  have k1 := I2.out.c 1 _ rfl
  have z1 := I2.out.cz 1
  have y1 := I2.out.lt
  clear h1
  go_wp2_with fail
  clear k1 z1 y1
  refine (N3.out _ J2.out.fl).mono ?_
  rintro e w3 ⟨rfl, h1⟩
  have I3 : Hid (Inv w w3 f3 _) := Lib.hid (J2.out.step h1)
  clear h1
  go_wp2_with fail
  refine (E.out _ I3.out.fl).mono ?_
  rintro e w4 ⟨rfl, h1⟩
  have I4 : Hid (Inv w w4 f4 _) := Lib.hid (I3.out.step h1)
  have k0 := I4.out.c 0 _ rfl
  have g0 := I4.out.fl.1 0 _ rfl
  have y4 := I4.out.lt
  clear h1
  go_wp2_with (go_at_call 15; refine (V.out _).mono ?_; rintro e w9 ⟨rfl, rfl⟩)
  clear k0 g0 y4
  refine (T.out _ I4.out.fl).mono ?_
  rintro e w7 ⟨rfl, h1⟩
  have I7 : Hid (Inv w w7 f7 _) := Lib.hid (I4.out.step h1)
  have J7 : Hid (Inv w (w7.setCell ⟨w.heap.size + 1 + 1, 3, none⟩ (.string ⟨n.toArray⟩)) f7 [.int .i64 a, .int .i64 b, .string ⟨#[]⟩, .string ⟨n.toArray⟩]) := Lib.hid (I7.out.set 3 (by simp) _)
  have z3 := I7.out.cz 3
  have k0 := I7.out.c 0 _ rfl
  have k1 := I7.out.c 1 _ rfl
  have k2 := I7.out.c 2 _ rfl
  have k3 := I7.out.c 3 _ rfl
  have y7 := I7.out.lt
  have g1 := I7.out.fl.1 1 _ rfl
  clear h1
  cases hs : f7.2
  · have J2 := Lib.hid (J.out hs)
    rw [hs] at g1
    go_wp2_with fail
    refine (J2.out _).mono ?_
    rintro e w8 ⟨rfl, hb8⟩
    have I8 : Hid (Inv w w8 f7 _) := Lib.hid (J7.out.below hb8)
    clear hb8 z3 k0 k1 k2 k3 y7 g1
    have m0 := I8.out.r 0 _ rfl
    have m1 := I8.out.r 1 _ rfl
    have m2 := I8.out.r 2 _ rfl
    have m3 := I8.out.r 3 _ rfl
    have fz := I8.out.rz
    have y8 : w.heap.size < w8.heap.size := by have := I8.out.lt; omega
    by_cases hq : q = 0
    · subst hq
      have e := Lib.hid (hr.out.2.2 hs rfl)
      have k0 := I8.out.c 0 _ rfl
      have k1 := I8.out.c 1 _ rfl
      have k2 := I8.out.c 2 _ rfl
      have k3 := I8.out.c 3 _ rfl
      have y9 := I8.out.lt
      go_wp2_with fail
      refine bodyPost_ret (v := .tuple #[.agg #[.int .i64 a, .int .i64 b, .string ⟨#[]⟩, .string ⟨n.toArray⟩], .int .i64 0]) (by simp [results, Try.results10, go_sem, m0, m1, m2, m3]) rfl ?_
      rw [e.out]
      refine ⟨rfl, ?_⟩
      repeat (first | (with_reducible exact I8.out.bel) | (refine Below.setCell ?_ ?_ _; rotate_left; exact Nat.le_refl _))
    · have e := Lib.hid (hr.out.2.1 hs hq)
      have hq2 : (q != 0) = true := by simpa using hq
      go_wp2_with fail
      refine bodyPost_ret (v := .tuple #[.agg #[.int .i64 0, .int .i64 0, .string ⟨#[]⟩, .string ⟨#[]⟩], .int .i64 q]) (by simp [results, Try.results10, go_sem, m0, m1, m2, m3]) rfl ?_
      rw [e.out]
      refine ⟨rfl, ?_⟩
      repeat (first | (with_reducible exact I8.out.bel) | (refine Below.setCell ?_ ?_ _; rotate_left; exact Nat.le_refl _))
  · have e := Lib.hid (hr.out.1 hs)
    rw [hs] at g1
    have m0 := I7.out.r 0 _ rfl
    have m1 := I7.out.r 1 _ rfl
    have m2 := I7.out.r 2 _ rfl
    have m3 := I7.out.r 3 _ rfl
    have fz := I7.out.rz
    have y8 : w.heap.size < w7.heap.size := by omega
    go_wp2_with fail
    refine bodyPost_ret (v := .tuple #[.agg #[.int .i64 0, .int .i64 0, .string ⟨#[]⟩, .string ⟨#[]⟩], .int .i64 600]) (by simp [results, Try.results10, go_sem, m0, m1, m2, m3]) rfl ?_
    rw [e.out]
    refine ⟨rfl, ?_⟩
    repeat (first | (with_reducible exact J7.out.bel) | (refine Below.setCell ?_ ?_ _; rotate_left; exact Nat.le_refl _))
set_option maxHeartbeats 3200000 in
theorem get_value (l : List UInt8) (f1 f2 f3 f4 f5 f6 f7 : Chp.Fld) (a b k k4 z q : Int) (v n : List UInt8) (r : Chp.Msg × Int) (w : World) (hk : wrap64 (k - 4) = k4) (V : Hid (∀ W, Calls Try.prog 15 #[.int .i64 a] W fun e w' => e = .returned (.bool true) ∧ W = w'))
    (N1 : Hid (Num1 (w.heap.size + 1) 1 (l, false) f1 a)) (N2 : Hid (Num1 (w.heap.size + 1) 1 f1 f2 b)) (N3 : Hid (Num1 (w.heap.size + 1) 2 f2 f3 k)) (E : Hid (End1 (w.heap.size + 1) k4 f3 f4)) (N5 : Hid (Num1 (w.heap.size + 1) 1 f4 f5 z)) (T6 : Hid (Txt1 (w.heap.size + 1) z f5 f6 ⟨v.toArray⟩)) (T : Hid (Txt1 (w.heap.size + 1) (f6.1.length : Int) f6 f7 ⟨n.toArray⟩))
    (J : Hid (f7.2 = false → ∀ W, Calls Try.prog 14 #[.agg #[.int .i64 a, .int .i64 b, .string ⟨v.toArray⟩, .string ⟨n.toArray⟩]] W fun e w' => e = .returned (.int .i64 q) ∧ Below W.heap.size W w')) (hr : Hid (Chp.Way a b q v n f7.2 r)) :
    Calls Try.prog 10 #[.string ⟨l.toArray⟩] w (MsgPost r w) := by
  have I0 := Lib.hid (Inv.start w l)
  go_enter Try.func10, Try.ntmps10
  go_wp2_with fail
  refine (N1.out _ I0.out.fl).mono ?_
  rintro e w1 ⟨rfl, h1⟩
  have I1 : Hid (Inv w w1 f1 _) := Lib.hid (I0.out.step h1)
  have J1 : Hid (Inv w (w1.setCell ⟨w.heap.size + 1 + 1, 0, none⟩ (.int .i64 a)) f1 [.int .i64 a, .int .i64 0, .string ⟨#[]⟩, .string ⟨#[]⟩]) := Lib.hid (I1.out.set 0 (by simp) _)
  have k0 := I1.out.c 0 _ rfl
  have z0 := I1.out.cz 0
  have y0 := I1.out.lt
  clear h1
  go_wp2_with fail
  clear k0 z0 y0
  refine (N2.out _ J1.out.fl).mono ?_
  rintro e w2 ⟨rfl, h1⟩
  have I2 : Hid (Inv w w2 f2 _) := Lib.hid (J1.out.step h1)
  have J2 : Hid (Inv w (w2.setCell ⟨w.heap.size + 1 + 1, 1, none⟩ (.int .i64 b)) f2 [.int .i64 a, .int .i64 b, .string ⟨#[]⟩, .string ⟨#[]⟩]) := Lib.hid (I2.out.set 1 (by simp) _)
  have k1 := I2.out.c 1 _ rfl
  have z1 := I2.out.cz 1
  have y1 := I2.out.lt
  clear h1
  go_wp2_with fail
  clear k1 z1 y1
  refine (N3.out _ J2.out.fl).mono ?_
  rintro e w3 ⟨rfl, h1⟩
  have I3 : Hid (Inv w w3 f3 _) := Lib.hid (J2.out.step h1)
  clear h1
  go_wp2_with fail
  refine (E.out _ I3.out.fl).mono ?_
  rintro e w4 ⟨rfl, h1⟩
  have I4 : Hid (Inv w w4 f4 _) := Lib.hid (I3.out.step h1)
  have k0 := I4.out.c 0 _ rfl
  have y4 := I4.out.lt
  clear h1
  go_wp2_with (go_at_call 15; refine (V.out _).mono ?_; rintro e w9 ⟨rfl, rfl⟩)
  clear k0 y4
  refine (N5.out _ I4.out.fl).mono ?_
  rintro e w5 ⟨rfl, h1⟩
  have I5 : Hid (Inv w w5 f5 _) := Lib.hid (I4.out.step h1)
  clear h1
  go_wp2_with fail
  refine (T6.out _ I5.out.fl).mono ?_
  rintro e w6 ⟨rfl, h1⟩
  have I6 : Hid (Inv w w6 f6 _) := Lib.hid (I5.out.step h1)
  have J6 : Hid (Inv w (w6.setCell ⟨w.heap.size + 1 + 1, 2, none⟩ (.string ⟨v.toArray⟩)) f6 [.int .i64 a, .int .i64 b, .string ⟨v.toArray⟩, .string ⟨#[]⟩]) := Lib.hid (I6.out.set 2 (by simp) _)
  have z2 := I6.out.cz 2
  have k2 := I6.out.c 2 _ rfl
  have y6 := I6.out.lt
  have g0 := I6.out.fl.1 0 _ rfl
  clear h1
  go_wp2_with fail
  clear z2 k2 y6 g0
  refine (T.out _ J6.out.fl).mono ?_
  rintro e w7 ⟨rfl, h1⟩
  have I7 : Hid (Inv w w7 f7 _) := Lib.hid (J6.out.step h1)
  have J7 : Hid (Inv w (w7.setCell ⟨w.heap.size + 1 + 1, 3, none⟩ (.string ⟨n.toArray⟩)) f7 [.int .i64 a, .int .i64 b, .string ⟨v.toArray⟩, .string ⟨n.toArray⟩]) := Lib.hid (I7.out.set 3 (by simp) _)
  have z3 := I7.out.cz 3
  have k0 := I7.out.c 0 _ rfl
  have k1 := I7.out.c 1 _ rfl
  have k2 := I7.out.c 2 _ rfl
  have k3 := I7.out.c 3 _ rfl
  have y7 := I7.out.lt
  have g1 := I7.out.fl.1 1 _ rfl
  clear h1
  cases hs : f7.2
  · have J2 := Lib.hid (J.out hs)
    rw [hs] at g1
    go_wp2_with fail
    refine (J2.out _).mono ?_
    rintro e w8 ⟨rfl, hb8⟩
    have I8 : Hid (Inv w w8 f7 _) := Lib.hid (J7.out.below hb8)
    clear hb8 z3 k0 k1 k2 k3 y7 g1
    have m0 := I8.out.r 0 _ rfl
    have m1 := I8.out.r 1 _ rfl
    have m2 := I8.out.r 2 _ rfl
    have m3 := I8.out.r 3 _ rfl
    have fz := I8.out.rz
    have y8 : w.heap.size < w8.heap.size := by have := I8.out.lt; omega
    by_cases hq : q = 0
    · subst hq
      have e := Lib.hid (hr.out.2.2 hs rfl)
      have k0 := I8.out.c 0 _ rfl
      have k1 := I8.out.c 1 _ rfl
      have k2 := I8.out.c 2 _ rfl
      have k3 := I8.out.c 3 _ rfl
      have y9 := I8.out.lt
      go_wp2_with fail
      refine bodyPost_ret (v := .tuple #[.agg #[.int .i64 a, .int .i64 b, .string ⟨v.toArray⟩, .string ⟨n.toArray⟩], .int .i64 0]) (by simp [results, Try.results10, go_sem, m0, m1, m2, m3]) rfl ?_
      rw [e.out]
      refine ⟨rfl, ?_⟩
      repeat (first | (with_reducible exact I8.out.bel) | (refine Below.setCell ?_ ?_ _; rotate_left; exact Nat.le_refl _))
    · have e := Lib.hid (hr.out.2.1 hs hq)
      have hq2 : (q != 0) = true := by simpa using hq
      go_wp2_with fail
      refine bodyPost_ret (v := .tuple #[.agg #[.int .i64 0, .int .i64 0, .string ⟨#[]⟩, .string ⟨#[]⟩], .int .i64 q]) (by simp [results, Try.results10, go_sem, m0, m1, m2, m3]) rfl ?_
      rw [e.out]
      refine ⟨rfl, ?_⟩
      repeat (first | (with_reducible exact I8.out.bel) | (refine Below.setCell ?_ ?_ _; rotate_left; exact Nat.le_refl _))
  · have e := Lib.hid (hr.out.1 hs)
    rw [hs] at g1
    have m0 := I7.out.r 0 _ rfl
    have m1 := I7.out.r 1 _ rfl
    have m2 := I7.out.r 2 _ rfl
    have m3 := I7.out.r 3 _ rfl
    have fz := I7.out.rz
    have y8 : w.heap.size < w7.heap.size := by omega
    go_wp2_with fail
    refine bodyPost_ret (v := .tuple #[.agg #[.int .i64 0, .int .i64 0, .string ⟨#[]⟩, .string ⟨#[]⟩], .int .i64 600]) (by simp [results, Try.results10, go_sem, m0, m1, m2, m3]) rfl ?_
    rw [e.out]
    refine ⟨rfl, ?_⟩
    repeat (first | (with_reducible exact J7.out.bel) | (refine Below.setCell ?_ ?_ _; rotate_left; exact Nat.le_refl _))
/-- The contract of Get. -/
theorem hget_any (l : List UInt8) (w : World) (hm : l.length ≤ 281474976710656) : Calls Try.prog 10 #[.string ⟨l.toArray⟩] w (MsgPost (Chp.get l) w) := by
  have V := fun W => hasv_any (Chp.num (Chp.s1 l).1) W
  have b1 := (Chp.piece_rest (l, false) (1 : Nat)).1
  have b2 := (Chp.piece_rest (Chp.s1 l).2 (1 : Nat)).1
  have b3 := (Chp.piece_rest (Chp.s2 l).2 (2 : Nat)).1
  have b4 := (Chp.piece_rest (Chp.s3 l).2 ((Chp.num (Chp.s3 l).1 : Int) - 4)).2
  have b5 := (Chp.piece_rest (Chp.s4 l) (1 : Nat)).1
  have b6 := (Chp.piece_rest (Chp.s5 l).2 (Chp.num (Chp.s5 l).1 : Int))
  have e4 : (Chp.s4 l).1.length ≤ l.length := Nat.le_trans b4 (Nat.le_trans b3 (Nat.le_trans b2 b1))
  have hk : wrap64 ((Chp.num (Chp.s3 l).1 : Int) - 4) = (Chp.num (Chp.s3 l).1 : Int) - 4 := by
    have := Chp.num_small (Chp.s3 l).1 (Chp.piece_length _ 2)
    exact IntWalk.wrap64_in _ ⟨by omega, by omega⟩
  have N1 : Num1 (w.heap.size + 1) 1 (l, false) (Chp.s1 l).2 (Chp.num (Chp.s1 l).1) := fun W h => number_any _ 1 _ W h (by omega)
  have N2 : Num1 (w.heap.size + 1) 1 (Chp.s1 l).2 (Chp.s2 l).2 (Chp.num (Chp.s2 l).1) := fun W h => number_any _ 1 _ W h (by omega)
  have N3 : Num1 (w.heap.size + 1) 2 (Chp.s2 l).2 (Chp.s3 l).2 (Chp.num (Chp.s3 l).1) := fun W h => number_any _ 2 _ W h (by omega)
  have E : End1 (w.heap.size + 1) ((Chp.num (Chp.s3 l).1 : Int) - 4) (Chp.s3 l).2 (Chp.s4 l) := fun W h => end_any _ _ _ W h
  cases hv : Chp.val (Chp.num (Chp.s1 l).1)
  · rw [hv] at V
    have T : Txt1 (w.heap.size + 1) ((Chp.s4 l).1.length : Int) (Chp.s4 l) (Chp.n7 l).2 ⟨(Chp.n7 l).1.toArray⟩ := fun W h => text_any _ _ _ W h (by omega)
    exact get_none l _ _ _ _ _ _ _ _ _ _ _ _ w hk (Lib.hid V) (Lib.hid N1) (Lib.hid N2) (Lib.hid N3) (Lib.hid E) (Lib.hid T) (Lib.hid fun _ W => judge_any _ _ [] _ W (by simp)) (Lib.hid (Chp.way_none l hv))
  · rw [hv] at V
    have e5 : (Chp.s5 l).2.1.length ≤ l.length := Nat.le_trans b5 e4
    have N5 : Num1 (w.heap.size + 1) 1 (Chp.s4 l) (Chp.s5 l).2 (Chp.num (Chp.s5 l).1) := fun W h => number_any _ 1 _ W h (by omega)
    have T6 : Txt1 (w.heap.size + 1) (Chp.num (Chp.s5 l).1 : Int) (Chp.s5 l).2 (Chp.s6 l).2 ⟨(Chp.s6 l).1.toArray⟩ := fun W h => text_any _ _ _ W h (by omega)
    have e6 : (Chp.s6 l).2.1.length ≤ l.length := Nat.le_trans b6.1 e5
    have T : Txt1 (w.heap.size + 1) ((Chp.s6 l).2.1.length : Int) (Chp.s6 l).2 (Chp.v7 l).2 ⟨(Chp.v7 l).1.toArray⟩ := fun W h => text_any _ _ _ W h (by omega)
    have e7 : (Chp.s6 l).1.length ≤ l.length := Nat.le_trans b6.2 e5
    exact get_value l _ _ _ _ _ _ _ _ _ _ _ _ _ _ _ _ w hk (Lib.hid V) (Lib.hid N1) (Lib.hid N2) (Lib.hid N3) (Lib.hid E) (Lib.hid N5) (Lib.hid T6) (Lib.hid T) (Lib.hid fun _ W => judge_any _ _ _ _ W (by omega)) (Lib.hid (Chp.way_value l hv))
end Go.Proofs.Ytkdlhonbpciceaa.H
