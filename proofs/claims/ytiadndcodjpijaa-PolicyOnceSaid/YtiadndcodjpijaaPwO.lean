/-
  The law of what is learnt again, over the program.
-/
import Derived.Test.YtiadndcodjpijaaPol
import Derived.Test.YtiadndcodjpijaaPoB
namespace Go.Proofs.Ytiadndcodjpijaa.Pl
open Go.RowKit
theorem law_once (a : Pol.Lk) (nak : Bool) (v : Value) (os : List Pol.Op) (w : World) (hr : ReadsO w v os) (hl : os.length * 24 ≤ 140737488351232) (hd : ∀ o ∈ os, o.2.length ≤ 140737488351232) : Calls Try.prog 8 #[lv a, .bool nak, v] w fun e w' => e = .returned (.bool true) ∧ Below w.heap.size w w' :=
  walk_once a nak v os w (Pr.pol_any w) hr hl hd
end Go.Proofs.Ytiadndcodjpijaa.Pl
