/-
  The document's answer to a challenge, any id, secret and challenge.
-/
import Derived.Test.YtaagfmnpeimakaaDoorDg4
import Derived.Test.YtaagfmnpeimakaaDoorText
import Derived.Deep.QuietTactic
import Derived.BigQuiet
namespace Go.Proofs.YtaagfmnpeimakaaDoor.Dig
/-- The parts of an answer, one behind the other. -/
def parts (id : Int) (a b : List UInt8) : List UInt8 := [UInt8.ofNat (id % 256).toNat] ++ a ++ b
theorem parts_length (id : Int) (a b : List UInt8) : (parts id a b).length = 1 + a.length + b.length := by simp [parts]; omega
end Go.Proofs.YtaagfmnpeimakaaDoor.Dig
namespace Go.Proofs.YtaagfmnpeimakaaDoor.Dg
open Go.RowKit
set_option maxHeartbeats 1600000 in
theorem rchap_any (id : Int) (a b : List UInt8) (w : World) (hl : a.length + b.length ≤ 140737488354000) :
    Calls Tryd.prog 16 #[.int .i64 id, .string ⟨a.toArray⟩, .string ⟨b.toArray⟩] w fun e w' => e = .returned (.string ⟨(Dig.md5 (Dig.parts id a b)).toArray⟩) ∧ Below w.heap.size w w' := by
  have hi := i64_and255 id
  obtain ⟨y, hy⟩ : ∃ y : UInt8, y = UInt8.ofNat (id % 256).toNat := ⟨_, rfl⟩
  have hy2 : id % 256 = (y.toNat : Int) := by rw [hy]; simp; omega
  rw [hy2] at hi
  have HP : Hid (Dig.parts id a b = [y] ++ a ++ b) := Lib.hid (by unfold Dig.parts; rw [hy])
  have HA := Lib.hid ((Below.refl w.heap.size w).alloc (Nat.le_refl _) (.cells (Lib.byteCells [y]).toArray 5))
  have HMD := Lib.hid fun W => md5_any ([y] ++ a ++ b) W (by simp; omega)
  have hcell : (#[.int .u8 ((y.toNat : Int) % 256)] : Array Value) = (Lib.byteCells [y]).toArray := by
    have := y.toNat_lt
    rw [show (y.toNat : Int) % 256 = (y.toNat : Int) by omega]
    rfl
  have hc := conv_new w [y] _ hcell
  rw [List.length_singleton] at hc
  have s1 : Sums [y] a ([y] ++ a) := sums [y] a (by simp; omega)
  have s2 : Sums ([y] ++ a) b ([y] ++ a ++ b) := sums ([y] ++ a) b (by simp; omega)
  rw [← hcell] at HA
  clear hcell
  generalize [y] ++ a ++ b = S at *
  generalize [y] ++ a = R at *
  clear hy hy2
  go_enter Tryd.func16, Tryd.ntmps16
  go_wp2_with fail
  refine (HMD.out _).mono ?_
  rintro e w2 ⟨rfl, hb2⟩
  have HB := Lib.hid (bel2 HA.out hb2)
  clear hb2
  go_wp2_with fail
  go_ret
  exact ⟨by rw [HP.out]; rfl, HB.out⟩
end Go.Proofs.YtaagfmnpeimakaaDoor.Dg
