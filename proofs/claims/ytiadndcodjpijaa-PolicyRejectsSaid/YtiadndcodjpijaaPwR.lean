/-
  The law of one option that is to be rejected, over the program.
-/
import Derived.Test.YtiadndcodjpijaaPol
import Derived.Test.YtiadndcodjpijaaPoG
namespace Go.Proofs.Ytiadndcodjpijaa.Pl
open Go.RowKit
theorem law_rejects (a : Pol.Lk) (kind at' : Int) (w : World) (_ : (Lit.int .i64 kind).wf = true) (_ : (Lit.int .i64 at').wf = true) : Calls Try.prog 6 #[lv a, .int .i64 kind, .int .i64 at'] w fun e w' => e = .returned (.bool true) ∧ Below w.heap.size w w' :=
  walk_rejects a kind at' w (Pr.pol_any w)
end Go.Proofs.Ytiadndcodjpijaa.Pl
