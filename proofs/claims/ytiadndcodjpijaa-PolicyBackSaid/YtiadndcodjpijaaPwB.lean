/-
  The law of what a link asks for, over the program.
-/
import Derived.Test.YtiadndcodjpijaaPol
import Derived.Test.YtiadndcodjpijaaPoC
namespace Go.Proofs.Ytiadndcodjpijaa.Pl
open Go.RowKit
theorem law_back (a b : Pol.Lk) (w : World) : Calls Try.prog 3 #[lv a, lv b] w fun e w' => e = .returned (.bool true) ∧ Below w.heap.size w w' :=
  walk_back a b w (Pr.pol_any w)
end Go.Proofs.Ytiadndcodjpijaa.Pl
