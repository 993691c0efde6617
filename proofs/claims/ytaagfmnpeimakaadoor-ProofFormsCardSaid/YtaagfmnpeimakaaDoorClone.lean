/-
  A text that is cloned holds the same bytes; nothing that was there has changed.
-/
import Derived.Test.YtaagfmnpeimakaaDoorOwn
import Derived.Test.YtaagfmnpeimakaaDoorShelf
namespace Go.Proofs.YtaagfmnpeimakaaDoor
open Go.RowKit
set_option maxHeartbeats 400000 in
theorem clone_any (s : ByteArray) (w : World) (hs : s.size ≤ 281474976710656) : Calls Tryd.prog 25 #[.string s] w fun e w' => e = .returned (.string s) ∧ Below w.heap.size w w' := by
  go_enter Tryd.func25, Tryd.ntmps25
  go_wp2_with (go_at_call 38; refine (Tryd.stringslite_Clone _ _ hs).mono ?_; rintro e w1 ⟨rfl, hb⟩)
  go_ret
  exact ⟨rfl, hb⟩
end Go.Proofs.YtaagfmnpeimakaaDoor
