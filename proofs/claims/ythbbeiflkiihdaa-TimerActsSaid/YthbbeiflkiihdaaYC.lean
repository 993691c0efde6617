/-
  A machine of timers in a law; law 11's awake.
-/
import Derived.Test.YthbbeiflkiihdaaYB
import Derived.Test.YthbbeiflkiihdaaNum
import Derived.Test.YthbbeiflkiihdaaSameI
namespace Go.Proofs.Ythbbeiflkiihdaa.Y
open Go.RowKit
/-- A law that began in 'w' holds a machine that it made itself. -/
structure In (w : World) (B : Nat) (v : Value) (w' : World) (S : List Tim.T) : Prop where
  bel : Below w.heap.size w w'
  tm : Tm B v w' S
  lo : w.heap.size ≤ B
theorem In.row {w w' : World} {B : Nat} {v : Value} {S : List Tim.T} (h : In w B v w' S) : ∀ k, v.ownBlock = some k → w.heap.size ≤ k := fun k hk => by have := (h.tm.row k hk).1; have := h.lo; omega
theorem In.move {w w' w'' : World} {B : Nat} {v v' : Value} {S S' : List Tim.T} (h : In w B v w' S) (ht : Tm B v' w'' S') (hm : Mv B v v' w' w'') : In w B v' w'' S' :=
  ⟨hm.below h.bel h.bel.size h.lo h.row, ht, h.lo⟩
theorem In.below {w w' w'' : World} {B : Nat} {v : Value} {S : List Tim.T} (h : In w B v w' S) (hb : Below w'.heap.size w' w'') : In w B v w'' S := ⟨bel2 h.bel hb, h.tm.below hb, h.lo⟩
/-- Integers that a law holds beside its machine. -/
structure Held (B : Nat) (v va : Value) (ids : List Int) (w : World) : Prop where
  reads : ReadsI w va ids
  low : ∀ k, va.ownBlock = some k → k < w.heap.size ∧ k ≠ B ∧ v.ownBlock ≠ some k
theorem readsI_same {W W' : World} {v : Value} {zs : List Int} (h : ReadsI W v zs) (k : ∀ g, v.ownBlock = some g → W'.heap[g]? = W.heap[g]?) : ReadsI W' v zs := by
  rcases h with h | ⟨b, off, cap, rfl, hl, hc⟩
  · exact .inl h
  · exact .inr ⟨b, off, cap, rfl, hl, fun j u hj => (World.cell?_of_block (a := ⟨b, off + j, none⟩) (k b rfl)).trans (hc j u hj)⟩
theorem Held.move {B : Nat} {v v' va : Value} {ids : List Int} {w w' : World} (h : Held B v va ids w) (m : Mv B v v' w w') : Held B v' va ids w' :=
  ⟨readsI_same h.reads fun g hg => m.kept g (h.low g hg).1 (h.low g hg).2.1 (h.low g hg).2.2, fun k hk => ⟨Nat.lt_of_lt_of_le (h.low k hk).1 m.size, (h.low k hk).2.1, fun e => by
    rcases m.row k e with e | e
    · exact (h.low k hk).2.2 e
    · have := (h.low k hk).1; omega⟩⟩
theorem Held.below {B : Nat} {v va : Value} {ids : List Int} {w w' : World} (h : Held B v va ids w) (hb : Below w.heap.size w w') : Held B v va ids w' := h.move (Mv.of_below hb B v)
theorem t_new (w w0 : World) (hb : Below w.heap.size w w0) : Calls Try.prog 4 #[] w0 fun e w' => ∃ B v, e = .returned (.pointer (some ⟨B, 0, none⟩)) ∧ In w B v w' [] ∧ Below w0.heap.size w0 w' ∧ w0.heap.size ≤ B := by
  refine (tm_new w0).mono ?_
  rintro e w' ⟨rfl, ht, hb', _⟩
  exact ⟨_, _, rfl, ⟨bel2 hb hb', ht, hb.size⟩, hb', Nat.le_refl _⟩
theorem t_set {w w' : World} {B : Nat} {v : Value} {S S' : List Tim.T} {id t r : Int} (h : In w B v w' S) (e : Tim.set S id t = (S', r)) :
    Calls Try.prog 5 #[.pointer (some ⟨B, 0, none⟩), .int .i64 id, .int .i64 t] w' fun e w'' => e = .returned (.int .i64 r) ∧ ∃ v', In w B v' w'' S' ∧ Mv B v v' w' w'' := by
  have := set_any B v S id t w' h.tm
  rw [e] at this
  refine this.mono ?_
  rintro e w'' ⟨rfl, v', ht, hm⟩
  exact ⟨rfl, v', h.move ht hm, hm⟩
theorem t_stop {w w' : World} {B : Nat} {v : Value} {S S' : List Tim.T} {id r : Int} (h : In w B v w' S) (e : Tim.stop S id = (S', r)) :
    Calls Try.prog 8 #[.pointer (some ⟨B, 0, none⟩), .int .i64 id] w' fun e w'' => e = .returned (.int .i64 r) ∧ ∃ v', In w B v' w'' S' ∧ Mv B v v' w' w'' := by
  have := stop_any B v S id w' h.tm
  rw [e] at this
  refine this.mono ?_
  rintro e w'' ⟨rfl, v', ht, hm⟩
  exact ⟨rfl, v', h.move ht hm, hm⟩
theorem t_next {w w' : World} {B : Nat} {v : Value} {S : List Tim.T} {a b r : Int} (h : In w B v w' S) (e : Tim.next S = (a, b, r)) :
    Calls Try.prog 13 #[.pointer (some ⟨B, 0, none⟩)] w' fun e w'' => e = .returned (.tuple #[.int .i64 a, .int .i64 b, .int .i64 r]) ∧ In w B v w'' S ∧ Mv B v v w' w'' := by
  have := next_any B v S w' h.tm
  rw [e] at this
  refine this.mono ?_
  rintro e w'' ⟨rfl, hb⟩
  exact ⟨rfl, h.below hb, Mv.of_below hb B v⟩
theorem t_len {w w' : World} {B : Nat} {v : Value} {S : List Tim.T} {n : Nat} (h : In w B v w' S) (e : S.length = n) :
    Calls Try.prog 14 #[.pointer (some ⟨B, 0, none⟩)] w' fun e w'' => e = .returned (.int .i64 (n : Int)) ∧ w'' = w' := by
  rw [← e]
  exact tlen_any B v S w' h.tm
theorem t_due {w w' : World} {B : Nat} {v : Value} {S S' : List Tim.T} {now : Int} {ids : List Int} (h : In w B v w' S) (e : Tim.due S now = (S', ids)) :
    Calls Try.prog 10 #[.pointer (some ⟨B, 0, none⟩), .int .i64 now] w' fun e w'' => ∃ p cap v', e = .returned (.slice p ids.length cap) ∧ In w B v' w'' S' ∧ Held B v' (.slice p ids.length cap) ids w'' ∧ Mv B v v' w' w'' := by
  have := due_any B v S now w' h.tm
  rw [e] at this
  refine this.mono ?_
  rintro e w'' ⟨p, cap, rfl, hr, v', ht, hm, ho⟩
  refine ⟨p, cap, v', rfl, h.move ht hm, ⟨row_reads hr, fun k hk => ⟨(hr.lt k hk).2, fun e => ?_, fun e => ?_⟩⟩, hm⟩
  · have := (hr.lt k hk).1; have := h.tm.lt; omega
  · rw [ho] at e
    have := (hr.lt k hk).1; have := (h.tm.row k e).2; omega
set_option maxRecDepth 100000 in
set_option maxHeartbeats 3200000 in
theorem awake_any (w : World) : Calls Try.prog 15 #[] w fun e w' => e = .returned (.bool true) ∧ Below w.heap.size w w' := by
  go_enter Try.func15, Try.ntmps15
  go_wp2_with fail
  refine (t_new w w (Below.refl _ _)).mono ?_
  rintro e w1 ⟨B, v1, rfl, h1, _, _⟩
  have H1 := Lib.hid h1
  clear h1
  go_wp2_with fail
  refine (t_set H1.out (id := 5) (t := 10) (r := 0) (S' := [(5, 10)]) (by decide)).mono ?_
  rintro e w2 ⟨rfl, v2, h2, _⟩
  have H2 := Lib.hid h2
  clear h2
  go_wp2_with fail
  refine (t_set H2.out (id := 3) (t := 10) (r := 0) (S' := [(3, 10), (5, 10)]) (by decide)).mono ?_
  rintro e w3 ⟨rfl, v3, h3, _⟩
  have H3 := Lib.hid h3
  clear h3
  go_wp2_with fail
  refine (t_next H3.out (a := 3) (b := 10) (r := 0) (by decide)).mono ?_
  rintro e w4 ⟨rfl, h4, _⟩
  have H4 := Lib.hid h4
  clear h4
  go_wp2_with fail
  refine (t_due H4.out (now := 9) (S' := [(3, 10), (5, 10)]) (ids := []) (by decide)).mono ?_
  rintro e w5 ⟨p5, cap5, v5, rfl, h5, _, _⟩
  have H5 := Lib.hid h5
  clear h5
  go_wp2_with fail
  refine (t_due H5.out (now := 10) (S' := []) (ids := [3, 5]) (by decide)).mono ?_
  rintro e w6 ⟨p6, cap6, v6, rfl, h6, k6, _⟩
  have H6 := Lib.hid h6
  have K6 := Lib.hid k6
  clear h6 k6
  go_wp2_with fail
  refine (t_stop H6.out (id := 5) (r := 1101) (S' := []) (by decide)).mono ?_
  rintro e w7 ⟨rfl, v7, h7, m7⟩
  have H7 := Lib.hid h7
  have K7 := Lib.hid (K6.out.move m7)
  clear h7 m7
  go_wp2_with fail
  refine (t_next H7.out (a := 0) (b := 0) (r := 1101) (by decide)).mono ?_
  rintro e w8 ⟨rfl, h8, m8⟩
  have H8 := Lib.hid h8
  have hA := (Below.refl w8.heap.size w8).alloc (Nat.le_refl _) (.cells (cellsI [3, 5]).toArray 3)
  have K8 := Lib.hid ((K7.out.move m8).below hA)
  have B8 := Lib.hid (bel2 H8.out.bel hA)
  have L8 := Lib.hid (readsI_lit w8 _ rfl [3, 5] _ rfl)
  clear h8 m8 hA
  go_wp2_with (first | (go_at_call 6; refine (num_any _ _).mono ?_; rintro e w9 ⟨rfl, rfl⟩) | (go_at_call 11; refine (sameI_yes K8.out.reads L8.out (by decide)).mono ?_; rintro e w9 ⟨rfl, hb9⟩; have B9 := Lib.hid (bel2 B8.out hb9); clear hb9))
  go_ret
  exact ⟨rfl, B9.out⟩
end Go.Proofs.Ythbbeiflkiihdaa.Y
