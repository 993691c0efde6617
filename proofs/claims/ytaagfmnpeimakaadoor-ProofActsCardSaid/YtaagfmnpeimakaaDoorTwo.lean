/-
  General: the document's own two bytes of a number.
-/
import Derived.Test.YtaagfmnpeimakaaDoorOwn
namespace Go.Proofs.YtaagfmnpeimakaaDoor
open Go.RowKit
/-- The high byte, the low byte. -/
def two (n : Nat) : List UInt8 := [UInt8.ofNat (n / 256), UInt8.ofNat (n % 256)]
theorem two_cells (n : Nat) (h : n < 65536) : (#[Value.int .u8 ((n : Int) / 256), Value.int .u8 ((n : Int) % 256)] : Array Value) = (Lib.byteCells (two n)).toArray := by
  have h1 : (UInt8.ofNat (n / 256)).toNat = n / 256 := by simp; omega
  simp only [two, Lib.byteCells, List.map_cons, List.map_nil, h1]
  simp
set_option maxHeartbeats 400000 in
theorem two_any (n : Nat) (w : World) (hn : n < 65536) : Calls Tryd.prog 46 #[.int .i64 n] w fun e w' => e = .returned (.string ⟨(two n).toArray⟩) ∧ Below w.heap.size w w' := by
  have hc := conv_new w (two n) _ (two_cells n hn)
  have hl : (two n).length = 2 := rfl
  rw [hl] at hc
  clear hl
  obtain ⟨q, eq⟩ : ∃ q : Nat, q = n / 256 := ⟨_, rfl⟩
  obtain ⟨m, em⟩ : ∃ m : Nat, m = n % 256 := ⟨_, rfl⟩
  have hd : ((n : Int) / 256) = (q : Int) := by omega
  have hm : ((n : Int) % 256) = (m : Int) := by omega
  have a1 := and255 q (by omega)
  have a2 := and255 n hn
  have e1 : q % 256 = q := by omega
  rw [e1] at a1
  rw [← em] at a2
  rw [hd, hm] at hc
  have hq : q < 256 := by omega
  have hm2 : m < 256 := by omega
  clear eq em e1 hm
  go_enter Tryd.func46, Tryd.ntmps46
  go_wp2
  go_ret
  exact ⟨rfl, (Below.refl _ w).alloc (Nat.le_refl _) _⟩
end Go.Proofs.YtaagfmnpeimakaaDoor
