/-
  General: the document's own two bytes of a number of up to four.
-/
import Derived.Test.YtlolnbmdjnnkjaaOwn
namespace Go.Proofs.Ytlolnbmdjnnkjaa
open Go.RowKit
def twoW (n : Nat) : List UInt8 := [UInt8.ofNat (n / 256), UInt8.ofNat n]
theorem twoW_cells (n : Nat) : (#[Value.int .u8 ((n / 256 % 256 : Nat) : Int), Value.int .u8 ((n % 256 : Nat) : Int)] : Array Value) = (Lib.byteCells (twoW n)).toArray := by
  simp [twoW, Lib.byteCells]
set_option maxHeartbeats 400000 in
theorem twoW_any (n : Nat) (w : World) : Calls Try.prog 17 #[.int .i64 n] w fun e w' => e = .returned (.string ⟨(twoW n).toArray⟩) ∧ Below w.heap.size w w' := by
  have hc := conv_new w (twoW n) _ (twoW_cells n)
  have hl : (twoW n).length = 2 := rfl
  rw [hl] at hc
  clear hl
  obtain ⟨q, eq⟩ : ∃ q : Nat, q = n / 256 := ⟨_, rfl⟩
  obtain ⟨q2, eq2⟩ : ∃ q2 : Nat, q2 = n / 256 % 256 := ⟨_, rfl⟩
  obtain ⟨m, em⟩ : ∃ m : Nat, m = n % 256 := ⟨_, rfl⟩
  have hd : ((n : Int) / 256) = (q : Int) := by omega
  have a1 : bits BinOp.and IntKind.i64 (q : Int) 255 = (q2 : Int) := by rw [i64_and255]; omega
  have a2 : bits BinOp.and IntKind.i64 (n : Int) 255 = (m : Int) := by rw [i64_and255]; omega
  rw [← eq2, ← em] at hc
  have hq : q2 < 256 := by omega
  have hm2 : m < 256 := by omega
  clear eq eq2 em
  go_enter Try.func17, Try.ntmps17
  go_wp2
  go_ret
  exact ⟨rfl, (Below.refl _ w).alloc (Nat.le_refl _) _⟩
end Go.Proofs.Ytlolnbmdjnnkjaa
