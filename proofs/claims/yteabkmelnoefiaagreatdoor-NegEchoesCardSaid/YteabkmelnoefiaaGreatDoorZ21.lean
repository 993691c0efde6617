/-
  Stage 15: a side in its block; contracts of its automaton's methods.
-/
import Derived.Test.YteabkmelnoefiaaGreatDoorZ03
import Derived.Test.YteabkmelnoefiaaGreatDoorZ05
import Derived.Test.YteabkmelnoefiaaGreatDoorZU0
namespace Go.Proofs.YteabkmelnoefiaaGreatDoor.Ne
open Go.RowKit
set_option maxRecDepth 100000
abbrev Mem := Ng.Mem
def mcs (m : Mem) : List Value := [.int .i64 m.st, .int .i64 m.tries, .int .i64 m.left, .int .i64 m.own.mru, .int .i64 m.own.magic, .int .i64 m.own.mrru, .bool m.own.short, .string ⟨m.own.disc.toArray⟩, .int .i64 m.own.num,
  .int .i64 m.other.mru, .int .i64 m.other.magic, .int .i64 m.other.mrru, .bool m.other.short, .string ⟨m.other.disc.toArray⟩, .int .i64 m.other.num, .int .i64 m.id, .bool m.sent, .int .i64 m.sid,
  .int .i64 m.link.mru, .int .i64 m.link.magic, .int .i64 m.link.mrru, .bool m.link.short, .string ⟨m.link.disc.toArray⟩, .int .i64 m.link.num]
/-- Block 'B' holds this side. -/
def Rg (B : Nat) (w : World) (m : Mem) : Prop := Arr B w (mcs m)
theorem Rg.lt {B : Nat} {w : World} {m : Mem} (h : Rg B w m) : B < w.heap.size := Arr.lt h
theorem Rg.below {B : Nat} {w w' : World} {m : Mem} (h : Rg B w m) (k : Below w.heap.size w w') : Rg B w' m := Arr.below h k
theorem Rg.chg {B : Nat} {S : Nat → Prop} {w w' : World} {m : Mem} (h : Rg B w m) (k : Chg S w w') (hne : ¬ S B) : Rg B w' m := Arr.chg h k hne
theorem Rg.drew {B : Nat} {w : World} {m : Mem} (h : Rg B w m) : Rg B w.drew m := h
theorem Rg.own {B : Nat} {w : World} {m : Mem} (h : Rg B w m) : (loadVar 23 ⟨B, 3, none⟩).run Tryz.prog w = .ok (Pl.lv m.own) w :=
  Arr.loadMid h 3 (Pl.lcs m.own) (by intro j u hj; match j, hj with | 0, e => exact e | 1, e => exact e | 2, e => exact e | 3, e => exact e | 4, e => exact e | 5, e => exact e | j + 6, e => cases e) 23 _ Tryz.underlying23 rfl Pl.infoL
theorem Rg.other {B : Nat} {w : World} {m : Mem} (h : Rg B w m) : (loadVar 23 ⟨B, 9, none⟩).run Tryz.prog w = .ok (Pl.lv m.other) w :=
  Arr.loadMid h 9 (Pl.lcs m.other) (by intro j u hj; match j, hj with | 0, e => exact e | 1, e => exact e | 2, e => exact e | 3, e => exact e | 4, e => exact e | 5, e => exact e | j + 6, e => cases e) 23 _ Tryz.underlying23 rfl Pl.infoL
theorem infoRq : (Tryz.prog.info? 73).map (·.size) = some 8 := by kernel_rfl
/-- The last request as a value. -/
def rqcs (m : Mem) : List Value := .bool m.sent :: .int .i64 m.sid :: Pl.lcs m.link
theorem Rg.last {B : Nat} {w : World} {m : Mem} (h : Rg B w m) : (loadVar 73 ⟨B, 16, none⟩).run Tryz.prog w = .ok (.agg (rqcs m).toArray) w :=
  Arr.loadMid h 16 (rqcs m) (by intro j u hj; match j, hj with | 0, e => exact e | 1, e => exact e | 2, e => exact e | 3, e => exact e | 4, e => exact e | 5, e => exact e | 6, e => exact e | 7, e => exact e | j + 8, e => cases e) 73 _ Tryz.underlying73 rfl infoRq
theorem one_lcs (l : Pol.Lk) : ∀ v ∈ Pl.lcs l, v.oneCell' = true := by intro v hv; simp [Pl.lcs] at hv; rcases hv with rfl | rfl | rfl | rfl | rfl | rfl <;> rfl
theorem Rg.keepOwn {B : Nat} {w : World} {m : Mem} (h : Rg B w m) (l : Pol.Lk) : ∃ w', (storeVar 23 ⟨B, 3, none⟩ (Pl.lv l)).run Tryz.prog w = .ok () w' ∧ Rg B w' { m with own := l } ∧ w.grownBy w' (some B) := by
  obtain ⟨w', h1, h2, h3⟩ := Arr.storeMid h 3 (Pl.lcs l) (by show 3 + 6 ≤ 24; decide) 23 Pl.infoL (one_lcs l)
  exact ⟨w', h1, h2, h3⟩
theorem Rg.keepOther {B : Nat} {w : World} {m : Mem} (h : Rg B w m) (l : Pol.Lk) : ∃ w', (storeVar 23 ⟨B, 9, none⟩ (Pl.lv l)).run Tryz.prog w = .ok () w' ∧ Rg B w' { m with other := l } ∧ w.grownBy w' (some B) := by
  obtain ⟨w', h1, h2, h3⟩ := Arr.storeMid h 9 (Pl.lcs l) (by show 9 + 6 ≤ 24; decide) 23 Pl.infoL (one_lcs l)
  exact ⟨w', h1, h2, h3⟩
theorem Rg.keepLast {B : Nat} {w : World} {m : Mem} (h : Rg B w m) (i : Int) (l : Pol.Lk) : ∃ w', (storeVar 73 ⟨B, 16, none⟩ (.agg (Value.bool true :: Value.int .i64 i :: Pl.lcs l).toArray)).run Tryz.prog w = .ok () w' ∧ Rg B w' { m with sent := true, sid := i, link := l } ∧ w.grownBy w' (some B) := by
  obtain ⟨w', h1, h2, h3⟩ := Arr.storeMid h 16 (Value.bool true :: Value.int .i64 i :: Pl.lcs l) (by show 16 + 8 ≤ 24; decide) 73 infoRq (by
    intro v hv
    rcases List.mem_cons.1 hv with rfl | hv
    · rfl
    · rcases List.mem_cons.1 hv with rfl | hv
      · rfl
      · exact one_lcs l v hv)
  exact ⟨w', h1, h2, h3⟩
theorem Rg.setSt {B : Nat} {w : World} {m : Mem} (h : Rg B w m) (x : Int) : Rg B (w.setCell ⟨B, 0, none⟩ (.int .i64 x)) { m with st := x } := Arr.set h 0 _
theorem Rg.setLeft {B : Nat} {w : World} {m : Mem} (h : Rg B w m) (x : Int) : Rg B (w.setCell ⟨B, 2, none⟩ (.int .i64 x)) { m with left := x } := Arr.set h 2 _
theorem Rg.setId {B : Nat} {w : World} {m : Mem} (h : Rg B w m) (x : Int) : Rg B (w.setCell ⟨B, 15, none⟩ (.int .i64 x)) { m with id := x } := Arr.set h 15 _
/-- What a call to the side leaves. -/
abbrev VoidPost (B : Nat) (m : Mem) (w : World) : Ending → World → Prop := fun e w' => e = .returned (.tuple #[]) ∧ Rg B w' m ∧ w.grownBy w' (some B)
theorem refill_any (B : Nat) (m : Mem) (w : World) (h : Rg B w m) : Calls Tryz.prog 75 #[.pointer (some ⟨B, 0, none⟩)] w (VoidPost B { m with left := m.tries } w) := by
  have H := Lib.hid h
  have c1 := Arr.cell h 1 _ rfl
  have c2 := Arr.cell h 2 _ rfl
  have f2 := Arr.frozen h 2
  have hlt := h.lt
  clear h
  go_enter Tryz.func75, Tryz.ntmps75
  go_wp2_with fail
  go_end0
  exact ⟨rfl, H.out.setLeft _, grown_cell _ _ _⟩
theorem spendAll_any (B : Nat) (m : Mem) (w : World) (h : Rg B w m) : Calls Tryz.prog 76 #[.pointer (some ⟨B, 0, none⟩)] w (VoidPost B { m with left := 0 } w) := by
  have H := Lib.hid h
  have c2 := Arr.cell h 2 _ rfl
  have f2 := Arr.frozen h 2
  have hlt := h.lt
  clear h
  go_enter Tryz.func76, Tryz.ntmps76
  go_wp2_with fail
  go_end0
  exact ⟨rfl, H.out.setLeft _, grown_cell _ _ _⟩
theorem spend_any (B : Nat) (m : Mem) (w : World) (h : Rg B w m) (hf : m.Fit) : Calls Tryz.prog 78 #[.pointer (some ⟨B, 0, none⟩)] w (VoidPost B { m with left := Ng.less m.left } w) := by
  have H := Lib.hid h
  have c2 := Arr.cell h 2 _ rfl
  have f2 := Arr.frozen h 2
  have hlt := h.lt
  have hl := hf.left
  clear h hf
  obtain ⟨hz1, hz2⟩ := hl
  by_cases h1 : 1 ≤ m.left
  · have e : Ng.less m.left = m.left - 1 := if_pos (by omega)
    rw [e]
    generalize m.left = z at *
    have q : wrap64 (z - 1) = z - 1 := IntWalk.wrap64_in _ ⟨by omega, by omega⟩
    have q2 : 0 ≤ z - 1 := by omega
    have q3 : ¬ z - 1 < 0 := by omega
    have q4 : max (z - 1) 0 = z - 1 := by omega
    clear e
    go_enter Tryz.func78, Tryz.ntmps78
    go_wp2_with fail
    all_goals go_end0
    all_goals first | exact ⟨rfl, H.out.setLeft _, grown_cell _ _ _⟩ | omega
  · have e0 : m.left = 0 := by omega
    have e : Ng.less m.left = 0 := if_neg (by omega)
    rw [e]
    rw [e0] at c2
    clear e e0 h1 hz1 hz2
    go_enter Tryz.func78, Tryz.ntmps78
    go_wp2_with fail
    go_end0
    exact ⟨rfl, H.out.setLeft _, grown_cell _ _ _⟩
theorem isSpent_any (B : Nat) (m : Mem) (w : World) (h : Rg B w m) : Calls Tryz.prog 33 #[.pointer (some ⟨B, 0, none⟩)] w fun e w' => e = .returned (.bool (m.left == 0)) ∧ w = w' := by
  have c2 := Arr.cell h 2 _ rfl
  have hlt := h.lt
  clear h
  go_enter Tryz.func33, Tryz.ntmps33
  go_wp2_with fail
  go_ret
  exact ⟨rfl, rfl⟩
theorem isDown_any (B : Nat) (m : Mem) (w : World) (h : Rg B w m) : Calls Tryz.prog 40 #[.pointer (some ⟨B, 0, none⟩)] w fun e w' => e = .returned (.bool (m.st == 0 || m.st == 1)) ∧ w = w' := by
  have c0 := Arr.cell h 0 _ rfl
  have hlt := h.lt
  clear h
  generalize m.st = z at *
  by_cases h0 : z = 0
  · subst h0
    go_enter Tryz.func40, Tryz.ntmps40
    go_wp2_with fail
    go_ret
    exact ⟨rfl, rfl⟩
  · have q : (z == 0) = false := by simpa using h0
    rw [q, Bool.false_or]
    go_enter Tryz.func40, Tryz.ntmps40
    go_wp2_with fail
    go_ret
    exact ⟨rfl, rfl⟩
theorem state_any (B : Nat) (m : Mem) (w : World) (h : Rg B w m) : Calls Tryz.prog 24 #[.pointer (some ⟨B, 0, none⟩)] w fun e w' => e = .returned (.int .i64 m.st) ∧ w = w' := by
  have c0 := Arr.cell h 0 _ rfl
  have hlt := h.lt
  clear h
  go_enter Tryz.func24, Tryz.ntmps24
  go_wp2_with fail
  go_ret
  exact ⟨rfl, rfl⟩
theorem left_any (B : Nat) (m : Mem) (w : World) (h : Rg B w m) : Calls Tryz.prog 27 #[.pointer (some ⟨B, 0, none⟩)] w fun e w' => e = .returned (.int .i64 m.left) ∧ w = w' := by
  have c2 := Arr.cell h 2 _ rfl
  have hlt := h.lt
  clear h
  go_enter Tryz.func27, Tryz.ntmps27
  go_wp2_with fail
  go_ret
  exact ⟨rfl, rfl⟩
/-- The automaton's step: the state, what is to be done. -/
theorem step_good (B : Nat) (m : Mem) (ev t : Int) (L : List Int) (w : World) (h : Rg B w m) (ST : U.StepOk w) (hr : Fsm.step m.st ev = (t, L, 0)) :
    Calls Tryz.prog 51 #[.pointer (some ⟨B, 0, none⟩), .int .i64 ev] w fun e w' => ∃ p cap, e = .returned (.tuple #[.slice p L.length cap, .int .i64 0]) ∧ w'.ownsRow w.heap.size 3 1 (.slice p L.length cap) L.length (cellsI L) ∧ Rg B w' { m with st := t } ∧ w.grownBy w' (some B) := by
  have H := Lib.hid h
  have c0 := Arr.cell h 0 _ rfl
  have hlt := h.lt
  have S := Lib.hid (ST.at m.st ev t 0 L hr w (Below.refl _ _))
  clear h hr ST
  go_enter Tryz.func51, Tryz.ntmps51
  go_wp2_with fail
  refine S.out.mono ?_
  rintro e w1 ⟨p, cap, rfl, ho⟩
  have HO := Lib.hid ho
  have H1 := Lib.hid (H.out.below ho.2)
  have c0 := Arr.cell H1.out 0 _ rfl
  have f0 := Arr.frozen H1.out 0
  have hlt1 := H1.out.lt
  clear ho
  go_wp2_with fail
  go_ret2
  refine ⟨p, cap, rfl, ?_, H1.out.setSt t, grown_set (below_grown HO.out.2 _) 0 _⟩
  exact row_chg (S := fun k => k = B) HO.out.1 (Chg.of_grown (grown_cell w1 ⟨B, 0, none⟩ _) fun k e => .inr (Option.some.inj e).symm) fun g hg e => by have := (HO.out.1.lt g hg).1; omega
theorem step_bad (B : Nat) (m : Mem) (ev t e0 : Int) (L : List Int) (w : World) (h : Rg B w m) (ST : U.StepOk w) (hr : Fsm.step m.st ev = (t, L, e0)) (he : e0 ≠ 0) :
    Calls Tryz.prog 51 #[.pointer (some ⟨B, 0, none⟩), .int .i64 ev] w fun e w' => e = .returned (.tuple #[.slice none 0 0, .int .i64 e0]) ∧ Below w.heap.size w w' := by
  have H := Lib.hid h
  have c0 := Arr.cell h 0 _ rfl
  have hlt := h.lt
  have S := Lib.hid (ST.at m.st ev t e0 L hr w (Below.refl _ _))
  have q : (e0 != 0) = true := by simpa using he
  clear h hr ST he
  go_enter Tryz.func51, Tryz.ntmps51
  go_wp2_with fail
  refine S.out.mono ?_
  rintro e w1 ⟨p, cap, rfl, ho⟩
  have HO := Lib.hid ho
  clear ho
  go_wp2_with fail
  go_ret2
  exact ⟨rfl, HO.out.2⟩
end Go.Proofs.YteabkmelnoefiaaGreatDoor.Ne
