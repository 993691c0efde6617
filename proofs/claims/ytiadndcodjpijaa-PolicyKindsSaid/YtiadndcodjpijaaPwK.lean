/-
  The law of one option alone, over the program.
-/
import Derived.Test.YtiadndcodjpijaaPol
import Derived.Test.YtiadndcodjpijaaPoF
namespace Go.Proofs.Ytiadndcodjpijaa.Pl
open Go.RowKit
theorem law_kinds (kind : Int) (data : ByteArray) (s : Bool) (w : World) (_ : (Lit.int .i64 kind).wf = true) (_ : data.size ≤ maxLen) : Calls Try.prog 5 #[.int .i64 kind, .string data, .bool s] w fun e w' => e = .returned (.bool true) ∧ Below w.heap.size w w' :=
  walk_kinds kind data s w (Pr.pol_any w)
end Go.Proofs.Ytiadndcodjpijaa.Pl
