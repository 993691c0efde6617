/-
  What the rows' listed variables give the walks of stage 13.
-/
import Derived.Test.YtaagfmnpeimakaaDoorDh3
import Derived.Test.YtaagfmnpeimakaaDoorRows
import Derived.Lib.LaidTab
import Derived.Lib.LaidU8
namespace Go.Proofs.YtaagfmnpeimakaaDoor.Dg
open Go.RowKit
set_option maxRecDepth 100000
theorem sines_data : (Rows.laid_withy_digest_sines : DataW Unit) = Lib.tabData .u32 (Dig.sines.map fun x => (x.toNat : Int)) := by kernel_rfl
theorem turns_data : (Rows.laid_withy_digest_turns : DataW Unit) = .agg [Lib.tabData .i64 [7, 12, 17, 22], Lib.tabData .i64 [5, 9, 14, 20], Lib.tabData .i64 [4, 11, 16, 23], Lib.tabData .i64 [6, 10, 15, 21]] := by kernel_rfl
/-- Four cells out of so many, as a list. -/
theorem turns_row (i : Nat) (hi : i < 4) : ∃ zs : List Int, zs.length = 4 ∧ ([Lib.tabData .i64 [7, 12, 17, 22], Lib.tabData .i64 [5, 9, 14, 20], Lib.tabData .i64 [4, 11, 16, 23], Lib.tabData .i64 [6, 10, 15, 21]] : List (DataW Unit))[i]? = some (Lib.tabData .i64 zs) ∧ ∀ j, j < 4 → zs[j]? = some ((Dig.turns.getD (i * 4 + j) 0 : Nat) : Int) := by
  have k : ∀ a b c d : Int, ∀ f : Nat → Int, f 0 = a → f 1 = b → f 2 = c → f 3 = d → ∀ j, j < 4 → ([a, b, c, d] : List Int)[j]? = some (f j) := by
    rintro a b c d f rfl rfl rfl rfl j hj
    match j, hj with
    | 0, _ => rfl
    | 1, _ => rfl
    | 2, _ => rfl
    | 3, _ => rfl
  match i, hi with
  | 0, _ => exact ⟨[7, 12, 17, 22], rfl, rfl, k _ _ _ _ (fun j => ((Dig.turns.getD (0 * 4 + j) 0 : Nat) : Int)) rfl rfl rfl rfl⟩
  | 1, _ => exact ⟨[5, 9, 14, 20], rfl, rfl, k _ _ _ _ (fun j => ((Dig.turns.getD (1 * 4 + j) 0 : Nat) : Int)) rfl rfl rfl rfl⟩
  | 2, _ => exact ⟨[4, 11, 16, 23], rfl, rfl, k _ _ _ _ (fun j => ((Dig.turns.getD (2 * 4 + j) 0 : Nat) : Int)) rfl rfl rfl rfl⟩
  | 3, _ => exact ⟨[6, 10, 15, 21], rfl, rfl, k _ _ _ _ (fun j => ((Dig.turns.getD (3 * 4 + j) 0 : Nat) : Int)) rfl rfl rfl rfl⟩
theorem tab_laid {W : World} {laid : List (String × DataW Unit)} (h : laidMet Tryd.prog laid W) (hm : ("withy/digest.sines", (Rows.laid_withy_digest_sines : DataW Unit)) ∈ laid ∧ ("withy/digest.turns", (Rows.laid_withy_digest_turns : DataW Unit)) ∈ laid) (_ : W.ShapedOpen Tryd.prog) : Dh.Tab W := by
  have hg : Tryd.prog.globalNamed "withy/digest.sines" = some 0 := by kernel_rfl
  have hy : (Tryd.prog.globals[0]?).map (·.type) = some 108 := by kernel_rfl
  have c1 : Tryd.prog.cellsOf 76 = 1 := by kernel_rfl
  have c2 : Tryd.prog.cellsOf 108 = 64 := by kernel_rfl
  have hg' : Tryd.prog.globalNamed "withy/digest.turns" = some 1 := by kernel_rfl
  have hy' : (Tryd.prog.globals[1]?).map (·.type) = some 113 := by kernel_rfl
  have c3 : Tryd.prog.cellsOf 3 = 1 := by kernel_rfl
  have c4 : Tryd.prog.cellsOf 112 = 4 := by kernel_rfl
  obtain ⟨g, t, cs, fuel, p, e1, e2, e3, e4⟩ := Lib.laidMet.reads h hm.1
  obtain rfl := Option.some.inj (hg.symm.trans e1)
  obtain rfl := Option.some.inj (hy.symm.trans e2)
  rw [sines_data] at e4
  have e5 := Lib.cells_of_tab Tryd.underlying108 Tryd.underlying76 c1 c2 e4
  obtain ⟨g', t', cs', fuel', p', f1, f2, f3, f4⟩ := Lib.laidMet.reads h hm.2
  obtain rfl := Option.some.inj (hg'.symm.trans f1)
  obtain rfl := Option.some.inj (hy'.symm.trans f2)
  rw [turns_data] at f4
  refine ⟨?_, fun c hc => ?_⟩
  · simp only [World.var?, hg, Option.bind_some] at e3
    split at e3
    · rename_i cs0 t0 fr0 hh
      obtain rfl := Option.some.inj e3
      refine ⟨t0, fr0, ?_⟩
      rw [hh]
      have : cs0 = (cellsW Dig.sines).toArray := by
        apply Array.toList_inj.1
        rw [e5]
        simp [cellsW]
      rw [this]
    · cases e3
  · obtain ⟨zs, hz, hi, hj⟩ := turns_row (c / 4) (by omega)
    obtain ⟨fuel2, d, q, hd, ht⟩ := Lib.array_elem Tryd.underlying113 f4 (c / 4) (by omega)
    rw [hi] at hd
    obtain rfl := Option.some.inj hd
    rw [c4] at ht
    have e6 := Lib.cells_of_tab Tryd.underlying112 Tryd.underlying3 c3 c4 ht
    have e7 := World.var?_cell hg' f3 c
    rw [e7]
    have e8 := congrArg (·[c % 4]?) e6
    simp only [List.getElem?_take, List.getElem?_drop, List.getElem?_map, hj (c % 4) (by omega)] at e8
    rw [if_pos (by omega), show c / 4 * 4 + c % 4 = c by omega] at e8
    simpa using e8
end Go.Proofs.YtaagfmnpeimakaaDoor.Dg
