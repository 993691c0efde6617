/-
  A machine of timers and the document's own beside it in a law, and an act of the law's own.
-/
import Derived.Test.YthbbeiflkiihdaaYC
import Derived.Test.YthbbeiflkiihdaaYR7
namespace Go.Proofs.Ythbbeiflkiihdaa.Y
open Go.RowKit
/-- A law that began in 'w' holds a machine of the program's and one of the document's. -/
structure Both (w : World) (B : Nat) (v : Value) (C : Nat) (u : Value) (w' : World) (S R : List Tim.T) : Prop where
  a : In w B v w' S
  b : Rm C u w' R
  lo : w.heap.size ≤ C
  ap : Apart B v C u
theorem Rm.row {B : Nat} {v : Value} {w : World} {S : List Tim.T} (h : Rm B v w S) (k : Nat) (hk : v.ownBlock = some k) : B < k ∧ k < w.heap.size := by
  have := h.rf.arr.lt k hk
  omega
theorem Both.left {w w' w'' : World} {B C : Nat} {v v' u : Value} {S S' R : List Tim.T} (h : Both w B v C u w' S R) (h1 : In w B v' w'' S') (m : Mv B v v' w' w'') : Both w B v' C u w'' S' R :=
  ⟨h1, ⟨h.b.ok, h.b.rf.other m h.ap⟩, h.lo, h.ap.move m h.b.rf.lt fun k hk => (h.b.row k hk).2⟩
theorem Both.right {w w' w'' : World} {B C : Nat} {v u u' : Value} {S R R' : List Tim.T} (h : Both w B v C u w' S R) (h1 : Rm C u' w'' R') (m : Mv C u u' w' w'') : Both w B v C u' w'' S R' :=
  ⟨⟨m.below h.a.bel h.a.bel.size h.lo fun k hk => by have := (h.b.row k hk).1; have := h.lo; omega, h.a.tm.other m h.ap.symm, h.a.lo⟩, h1, h.lo, (h.ap.symm.move m h.a.tm.lt fun k hk => (h.a.tm.row k hk).2).symm⟩
theorem Both.below {w w' w'' : World} {B C : Nat} {v u : Value} {S R : List Tim.T} (h : Both w B v C u w' S R) (hb : Below w'.heap.size w' w'') : Both w B v C u w'' S R := ⟨h.a.below hb, h.b.below hb, h.lo, h.ap⟩
/-- A box beside both. -/
structure Play (w : World) (B : Nat) (v : Value) (C : Nat) (u : Value) (w' : World) (S R : List Tim.T) (G : Nat) (cs : List Value) : Prop where
  t : Both w B v C u w' S R
  x : Blk G w' cs
  off : G ≠ B ∧ v.ownBlock ≠ some G ∧ G ≠ C ∧ u.ownBlock ≠ some G
theorem Play.lt {w w' : World} {B C G : Nat} {v u : Value} {S R : List Tim.T} {c : Value} {cs : List Value} (h : Play w B v C u w' S R G (c :: cs)) : G < w'.heap.size := block_lt_of_cell (h.x.cell 0 c rfl)
theorem Play.left {w w' w'' : World} {B C G : Nat} {v v' u : Value} {S S' R : List Tim.T} {c : Value} {cs : List Value} (h : Play w B v C u w' S R G (c :: cs)) (h1 : In w B v' w'' S') (m : Mv B v v' w' w'') : Play w B v' C u w'' S' R G (c :: cs) :=
  ⟨h.t.left h1 m, h.x.same (m.kept G h.lt h.off.1 h.off.2.1), h.off.1, fun e => by
    rcases m.row G e with e | e
    · exact h.off.2.1 e
    · have := h.lt; omega, h.off.2.2⟩
theorem Play.right {w w' w'' : World} {B C G : Nat} {v u u' : Value} {S R R' : List Tim.T} {c : Value} {cs : List Value} (h : Play w B v C u w' S R G (c :: cs)) (h1 : Rm C u' w'' R') (m : Mv C u u' w' w'') : Play w B v C u' w'' S R' G (c :: cs) :=
  ⟨h.t.right h1 m, h.x.same (m.kept G h.lt h.off.2.2.1 h.off.2.2.2), h.off.1, h.off.2.1, h.off.2.2.1, fun e => by
    rcases m.row G e with e | e
    · exact h.off.2.2.2 e
    · have := h.lt; omega⟩
theorem Play.below {w w' w'' : World} {B C G : Nat} {v u : Value} {S R : List Tim.T} {c : Value} {cs : List Value} (h : Play w B v C u w' S R G (c :: cs)) (hb : Below w'.heap.size w' w'') : Play w B v C u w'' S R G (c :: cs) := ⟨h.t.below hb, h.x.below hb, h.off⟩
theorem Both.play {w w' : World} {B C : Nat} {v u : Value} {S R : List Tim.T} (h : Both w B v C u w' S R) (cs : List Value) (e : TypeId) : Play w B v C u (w'.alloc (.cells cs.toArray e)) S R w'.heap.size cs :=
  ⟨h.below ((Below.refl w'.heap.size w').alloc (Nat.le_refl _) (.cells cs.toArray e)), Blk.new w' cs e, fun e => by have := h.a.tm.lt; omega, fun e => by have := (h.a.tm.row _ e).2; omega, fun e => by have := h.b.rf.lt; omega, fun e => by have := (h.b.row _ e).2; omega⟩
theorem Play.drew {w w' : World} {B C G : Nat} {v u : Value} {S R : List Tim.T} {c : Value} {cs : List Value} (h : Play w B v C u w' S R G (c :: cs)) : Play w B v C u w'.drew S R G (c :: cs) := h.below (Below.refl _ w').drew
theorem Play.two {w w' : World} {B C G : Nat} {v u a b c : Value} {S R : List Tim.T} (h : Play w B v C u w' S R G [a, b, c]) : w'.cell? ⟨G, 1, none⟩ = some b ∧ w'.cell? ⟨G, 2, none⟩ = some c := ⟨h.x.cell 1 _ rfl, h.x.cell 2 _ rfl⟩
theorem p_set {w w' : World} {B C G : Nat} {v u : Value} {S S' R : List Tim.T} {c : Value} {cs : List Value} {id t r : Int} (h : Play w B v C u w' S R G (c :: cs)) (e : Tim.set S id t = (S', r)) :
    Calls Try.prog 5 #[.pointer (some ⟨B, 0, none⟩), .int .i64 id, .int .i64 t] w' fun e w'' => e = .returned (.int .i64 r) ∧ ∃ v', Play w B v' C u w'' S' R G (c :: cs) := by
  refine (t_set h.t.a e).mono ?_
  rintro e w'' ⟨rfl, v', h1, m⟩
  exact ⟨rfl, v', h.left h1 m⟩
theorem q_set {w w' : World} {B C G : Nat} {v u : Value} {S R R' : List Tim.T} {c : Value} {cs : List Value} {id t r : Int} (h : Play w B v C u w' S R G (c :: cs)) (e : Tim.set R id t = (R', r)) :
    Calls Try.prog 7 #[.pointer (some ⟨C, 0, none⟩), .int .i64 id, .int .i64 t] w' fun e w'' => e = .returned (.int .i64 r) ∧ ∃ u', Play w B v C u' w'' S R' G (c :: cs) := by
  have := rset_any C u R id t w' h.t.b
  rw [e] at this
  refine this.mono ?_
  rintro e w'' ⟨rfl, u', h1, m⟩
  exact ⟨rfl, u', h.right h1 m⟩
theorem p_stop {w w' : World} {B C G : Nat} {v u : Value} {S S' R : List Tim.T} {c : Value} {cs : List Value} {id r : Int} (h : Play w B v C u w' S R G (c :: cs)) (e : Tim.stop S id = (S', r)) :
    Calls Try.prog 8 #[.pointer (some ⟨B, 0, none⟩), .int .i64 id] w' fun e w'' => e = .returned (.int .i64 r) ∧ ∃ v', Play w B v' C u w'' S' R G (c :: cs) := by
  refine (t_stop h.t.a e).mono ?_
  rintro e w'' ⟨rfl, v', h1, m⟩
  exact ⟨rfl, v', h.left h1 m⟩
theorem q_stop {w w' : World} {B C G : Nat} {v u : Value} {S R R' : List Tim.T} {c : Value} {cs : List Value} {id r : Int} (h : Play w B v C u w' S R G (c :: cs)) (e : Tim.stop R id = (R', r)) :
    Calls Try.prog 9 #[.pointer (some ⟨C, 0, none⟩), .int .i64 id] w' fun e w'' => e = .returned (.int .i64 r) ∧ ∃ u', Play w B v C u' w'' S R' G (c :: cs) := by
  have := rstop_any C u R id w' h.t.b
  rw [e] at this
  refine this.mono ?_
  rintro e w'' ⟨rfl, u', h1, m⟩
  exact ⟨rfl, u', h.right h1 m⟩
theorem p_due {w w' : World} {B C G : Nat} {v u : Value} {S S' R : List Tim.T} {c : Value} {cs : List Value} {now : Int} {ids : List Int} (h : Play w B v C u w' S R G (c :: cs)) (e : Tim.due S now = (S', ids)) :
    Calls Try.prog 10 #[.pointer (some ⟨B, 0, none⟩), .int .i64 now] w' fun e w'' => ∃ p cap v', e = .returned (.slice p ids.length cap) ∧ Play w B v' C u w'' S' R G (c :: cs) ∧ Held C u (.slice p ids.length cap) ids w'' := by
  have := due_any B v S now w' h.t.a.tm
  rw [e] at this
  refine this.mono ?_
  rintro e w'' ⟨p, cap, rfl, hr, v', ht, hm, ho⟩
  refine ⟨p, cap, v', rfl, h.left (h.t.a.move ht hm) hm, row_reads hr, fun k hk => ⟨(hr.lt k hk).2, fun e => ?_, fun e => ?_⟩⟩
  · have := (hr.lt k hk).1; have := h.t.b.rf.lt; omega
  · have := (hr.lt k hk).1; have := (h.t.b.row k e).2; omega
theorem q_due {w w' : World} {B C G : Nat} {v u va : Value} {S R R' : List Tim.T} {c : Value} {cs : List Value} {now : Int} {ids is : List Int} (h : Play w B v C u w' S R G (c :: cs)) (k : Held C u va is w') (e : Tim.due R now = (R', ids)) :
    Calls Try.prog 12 #[.pointer (some ⟨C, 0, none⟩), .int .i64 now] w' fun e w'' => ∃ p cap u', e = .returned (.slice p ids.length cap) ∧ Play w B v C u' w'' S R' G (c :: cs) ∧ ReadsI w'' va is ∧ ReadsI w'' (.slice p ids.length cap) ids := by
  have := rdue_any C u R now w' h.t.b
  rw [e] at this
  refine this.mono ?_
  rintro e w'' ⟨p, cap, rfl, hr, u', ht, hm, _⟩
  exact ⟨p, cap, u', rfl, h.right ht hm, (k.move hm).reads, row_reads hr⟩
theorem p_next {w w' : World} {B C G : Nat} {v u : Value} {S R : List Tim.T} {c : Value} {cs : List Value} {a b r : Int} (h : Play w B v C u w' S R G (c :: cs)) (e : Tim.next S = (a, b, r)) :
    Calls Try.prog 13 #[.pointer (some ⟨B, 0, none⟩)] w' fun e w'' => e = .returned (.tuple #[.int .i64 a, .int .i64 b, .int .i64 r]) ∧ Play w B v C u w'' S R G (c :: cs) := by
  have := next_any B v S w' h.t.a.tm
  rw [e] at this
  refine this.mono ?_
  rintro e w'' ⟨rfl, hb⟩
  exact ⟨rfl, h.below hb⟩
theorem due_few (S : List Tim.T) (a : Int) : (Tim.due S a).2.length ≤ S.length := by
  unfold Tim.due
  rw [List.length_map]
  exact (List.takeWhile_sublist _).length_le
/-- Acts that came in. -/
def ReadsA (W : World) (v : Value) (l : List (Int × Int × Int)) : Prop := ∃ p cap, v = .slice p l.length cap ∧ ∃ b off, ∀ k (h : k < l.length), p = some ⟨b, off, none⟩ ∧
  (∀ W : World, (Instr.indexAt 22 v (.int .i64 (k : Int))).run Try.prog W = .ok (.pointer (some ⟨b, off + 3 * k, none⟩)) W) ∧
  W.cell? ⟨b, off + 3 * k, none⟩ = some (.int .i64 l[k].1) ∧ W.cell? ⟨b, off + 3 * k + 1, none⟩ = some (.int .i64 l[k].2.1) ∧ W.cell? ⟨b, off + 3 * k + 2, none⟩ = some (.int .i64 l[k].2.2)
theorem indexA (b off n cap k : Nat) (hk : k < n) (W : World) : (Instr.indexAt 22 (.slice (some ⟨b, off, none⟩) n cap) (.int .i64 (k : Int))).run Try.prog W = .ok (.pointer (some ⟨b, off + 3 * k, none⟩)) W := by
  have hs : (sizeOf (Try.prog.elem 22)).run Try.prog W = .ok 3 W := Try.sizeOf30 W
  have e := run_indexAt_slice (P := Try.prog) W 22 ⟨b, off, none⟩ n cap .i64 (k : Int) Try.underlying22
  rw [if_pos (by omega), hs] at e
  simp only [Result.andThen, Int.toNat_natCast] at e
  rw [e, add_at, Nat.mul_comm]
end Go.Proofs.Ythbbeiflkiihdaa.Y
