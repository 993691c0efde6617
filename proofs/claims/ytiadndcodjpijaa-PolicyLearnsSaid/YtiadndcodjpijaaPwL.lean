/-
  The law of what is learnt, over the program.
-/
import Derived.Test.YtiadndcodjpijaaPol
import Derived.Test.YtiadndcodjpijaaPoD
namespace Go.Proofs.Ytiadndcodjpijaa.Pl
open Go.RowKit
theorem law_learns (a b : Pol.Lk) (w : World) : Calls Try.prog 4 #[lv a, lv b] w fun e w' => e = .returned (.bool true) ∧ Below w.heap.size w w' :=
  walk_learns a b w (Pr.pol_any w)
end Go.Proofs.Ytiadndcodjpijaa.Pl
