/-
  The law of what was naked, over the program.
-/
import Derived.Test.YtiadndcodjpijaaPol
import Derived.Test.YtiadndcodjpijaaPoH
namespace Go.Proofs.Ytiadndcodjpijaa.Pl
open Go.RowKit
theorem law_naks (z0 z1 z2 : Int) (w : World) (_ : (Lit.int .i64 z0).wf = true) (_ : (Lit.int .i64 z1).wf = true) (_ : (Lit.int .i64 z2).wf = true) :
    Calls Try.prog 7 #[.int .i64 z0, .int .i64 z1, .int .i64 z2] w fun e w' => e = .returned (.bool true) ∧ Below w.heap.size w w' :=
  walk_naks z0 z1 z2 w (Pr.pol_any w) fun own v os W hr hl => Pr.judge_own own v os W hr hl
end Go.Proofs.Ytiadndcodjpijaa.Pl
