/-
  Stage 10's walks, as the frames take them.
-/
import Derived.Test.YtokkecbnbojlnaaDoorU8
import Derived.Test.YtokkecbnbojlnaaDoorA1
import Derived.Test.YtokkecbnbojlnaaDoorA2
import Derived.Test.YtokkecbnbojlnaaDoorA3
import Derived.Test.YtokkecbnbojlnaaDoorA4
import Derived.Test.YtokkecbnbojlnaaDoorA5
import Derived.Test.YtokkecbnbojlnaaDoorA6
import Derived.Test.YtokkecbnbojlnaaDoorA7
namespace Go.Proofs.YtokkecbnbojlnaaDoor.U
open Go.RowKit
theorem law_fsms (s v : Int) (w : World) (_ : (Lit.int .i64 s).wf = true) (_ : (Lit.int .i64 v).wf = true)  (T : Tab w) :
    Calls Tryd.prog 3 #[.int .i64 s, .int .i64 v] w fun e w' => e = .returned (.bool true) ∧ Below w.heap.size w w' := walk_fsms (step_any T) s v
theorem law_fsmTable (w : World)  (T : Tab w) :
    Calls Tryd.prog 4 #[] w fun e w' => e = .returned (.bool true) ∧ Below w.heap.size w w' := walk_fsmTable (step_any T)
theorem law_fsmUps (va : Value) (zs : List Int) (w : World) (hr : ReadsI w va zs) (hl : zs.length * 8 ≤ 140737488351232)  (T : Tab w) :
    Calls Tryd.prog 5 #[va] w fun e w' => e = .returned (.bool true) ∧ Below w.heap.size w w' := walk_fsmUps (step_any T) va zs hr (by omega)
theorem law_fsmEnds (s : Int) (w : World) (_ : (Lit.int .i64 s).wf = true)  (T : Tab w) :
    Calls Tryd.prog 6 #[.int .i64 s] w fun e w' => e = .returned (.bool true) ∧ Below w.heap.size w w' := walk_fsmEnds (step_any T) s
theorem law_fsmDowns (s : Int) (o : Bool) (w : World) (_ : (Lit.int .i64 s).wf = true)  (T : Tab w) :
    Calls Tryd.prog 7 #[.int .i64 s, .bool o] w fun e w' => e = .returned (.bool true) ∧ Below w.heap.size w w' := walk_fsmDowns (step_any T) s o
theorem law_fsmAnswers (s : Int) (o : Bool) (w : World) (_ : (Lit.int .i64 s).wf = true)  (T : Tab w) :
    Calls Tryd.prog 8 #[.int .i64 s, .bool o] w fun e w' => e = .returned (.bool true) ∧ Below w.heap.size w w' := walk_fsmAnswers (step_any T) s o
theorem law_fsmCounts (s v : Int) (w : World) (_ : (Lit.int .i64 s).wf = true) (_ : (Lit.int .i64 v).wf = true)  (T : Tab w) :
    Calls Tryd.prog 9 #[.int .i64 s, .int .i64 v] w fun e w' => e = .returned (.bool true) ∧ Below w.heap.size w w' := walk_fsmCounts (step_any T) s v
end Go.Proofs.YtokkecbnbojlnaaDoor.U
