/-
  A link (four numbers, a mark, a text) that comes in by value: opened.
-/
import Derived.Test.YtiadndcodjpijaaPl1
import Derived.Lib.SmallJoins
import Derived.KernelRfl
namespace Go.Proofs.Ytiadndcodjpijaa
open Go.ChangeShapes Go.WideShapes Go.ChangeAt Go.RowKit Go.Joins Go.Deep
theorem open_link {H : Type} {enc : TypeId × Value → H} {W : World} {base : Nat} {sp : Nat → Bool} {held : Bool} {r : Reach} {b0 : Nat} {v : Value} {d : DataW H} {p : List MemPlace}
    (hv : Value.okWide Try.prog W r b0 23 v) (h : DataW.Trod enc Try.prog W base sp held 23 v d p) :
    ∃ l : Pol.Lk, v = Pl.lv l ∧ (Lit.int .i64 l.mru).wf = true ∧ (Lit.int .i64 l.magic).wf = true ∧ (Lit.int .i64 l.mrru).wf = true ∧ (Lit.int .i64 l.num).wf = true := by
  obtain ⟨⟨l⟩, rfl, hsz⟩ := okWide_struct Try.underlying23 hv
  obtain ⟨fuel, hf⟩ := h
  have hC : Try.prog.cellsOf 23 = 6 := by kernel_rfl
  obtain ⟨xs, n, _, _, _, hlen, hg⟩ := DataW.trod_struct Try.underlying23 hf
  match l, hsz.trans hC with
  | [c0, c1, c2, c3, c4, c5], _ =>
    match xs, hlen with
    | [y0, y1, y2, y3, y4, y5], _ =>
      have one : Try.prog.cellsOf 3 = 1 := by kernel_rfl
      have oneB : Try.prog.cellsOf 4 = 1 := by kernel_rfl
      have oneS : Try.prog.cellsOf 9 = 1 := by kernel_rfl
      have g0 := hg 0 _ rfl
      have g1 := hg 1 _ rfl
      have g2 := hg 2 _ rfl
      have g3 := hg 3 _ rfl
      have g4 := hg 4 _ rfl
      have g5 := hg 5 _ rfl
      obtain ⟨a, e0, _, w0⟩ := DataW.trod_int Try.underlying3 g0
      obtain ⟨b, e1, _, w1⟩ := DataW.trod_int Try.underlying3 g1
      obtain ⟨c, e2, _, w2⟩ := DataW.trod_int Try.underlying3 g2
      obtain ⟨s, e3, _⟩ := DataW.trod_bool Try.underlying4 g3
      obtain ⟨t, e4, _, _⟩ := DataW.trod_string Try.underlying9 g4
      obtain ⟨m, e5, _, w5⟩ := DataW.trod_int Try.underlying3 g5
      simp [Value.cells, one, oneB, oneS] at e0 e1 e2 e3 e4 e5
      subst e0 e1 e2 e3 e4 e5
      exact ⟨⟨a, b, c, s, t.data.toList, m⟩, by unfold Pl.lv; simp, w0, w1, w2, w5⟩
end Go.Proofs.Ytiadndcodjpijaa
