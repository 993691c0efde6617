/-
  What the rows' listed variables and the world's shape give the walks of stage 10.
-/
import Derived.Test.YteabkmelnoefiaaGreatDoorZ07
import Derived.Test.YteabkmelnoefiaaGreatDoorRows
import Derived.Lib.LaidU8
import Derived.Lib.LaidTab
import Derived.Shelf.Vars
namespace Go.Proofs.YteabkmelnoefiaaGreatDoor.U
open Go.RowKit
theorem space_data : (Rows.laid_strings_asciiSpace : DataW Unit) = Lib.tabData .u8 Lib.asciiSpaceTab := by kernel_rfl
theorem tab_laid {W : World} {laid : List (String × DataW Unit)} (h : laidMet Tryz.prog laid W) (hm : ("strings.asciiSpace", (Rows.laid_strings_asciiSpace : DataW Unit)) ∈ laid) (hsh : W.ShapedOpen Tryz.prog) : Tab W := by
  have hg : Tryz.prog.globalNamed "strings.asciiSpace" = some 0 := by kernel_rfl
  have hy : (Tryz.prog.globals[0]?).map (·.type) = some 182 := by kernel_rfl
  have c1 : Tryz.prog.cellsOf 5 = 1 := by kernel_rfl
  have c2 : Tryz.prog.cellsOf 182 = 256 := by kernel_rfl
  obtain ⟨g, t, cs, fuel, p, e1, e2, e3, e4⟩ := Lib.laidMet.reads h hm
  obtain rfl := Option.some.inj (hg.symm.trans e1)
  obtain rfl := Option.some.inj (hy.symm.trans e2)
  rw [space_data] at e4
  have e5 := Lib.cells_of_tab Tryz.underlying182 Tryz.underlying5 c1 c2 e4
  have hT : Lib.TabIs Tryz.prog W "strings.asciiSpace" .u8 Lib.asciiSpaceTab := by unfold Lib.TabIs; rw [e3, ← e5]
  refine ⟨fun c hc => ?_, cell_of_shapedOpen_int (t := 3) (zero := #[.int .i64 0]) hsh (of_decide_eq_true (by kernel_rfl)) (by kernel_rfl) rfl (by kernel_rfl) (by kernel_rfl) Tryz.underlying3⟩
  have := hT.cell hg c (by rw [Lib.asciiSpaceTab_length]; exact hc)
  rwa [Lib.asciiSpaceTab_at c hc] at this
end Go.Proofs.YteabkmelnoefiaaGreatDoor.U
