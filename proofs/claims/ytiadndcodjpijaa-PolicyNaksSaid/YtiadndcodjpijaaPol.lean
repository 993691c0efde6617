/-
  The program's policy is what the walks want.
-/
import Derived.Test.YtiadndcodjpijaaPrD
import Derived.Test.YtiadndcodjpijaaPrE
namespace Go.Proofs.Ytiadndcodjpijaa.Pr
open Go.RowKit
theorem pol_any (w : World) : Pl.PolOk w where
  ask l W _ := ask_any l W
  judge own v os W _ hr hl := judge_any own v os W hr hl
  learn l code v os W _ hr hl hd := learn_any l code v os W hr hl hd
  taken v os W _ hr hl hk hd := taken_any v os W hr hl hk hd
end Go.Proofs.Ytiadndcodjpijaa.Pr
