/-
  Contracts of the laws' own helpers over options: the kinds of a slice of the call's own written over; no other block changes.
-/
import Derived.Test.YtmonoicdejallaaKeptO
import Derived.Maps.AppendAt
namespace Go.Proofs.Ytmonoicdejallaa
open Go.RowKit
theorem grown_self (w : World) (row : Option Nat) : w.grownBy w row := ⟨rfl, rfl, rfl, Nat.le_refl _, fun _ _ _ => rfl⟩
theorem grown_drew2 {a b : World} {row : Option Nat} (h : a.grownBy b row) : a.grownBy b.drew row := ⟨h.os, h.tape, h.output, h.size, h.block⟩
set_option maxHeartbeats 400000 in
theorem spoilO_any (v : Value) (os : List Opt.Op) (w W : World) (h : OwnsO w W v os) (hl : os.length ≤ 4611686018427387904) :
    Calls Try.prog 15 #[v] W fun e W' => e = .returned (.tuple #[]) ∧ W.grownBy W' v.ownBlock := by
  by_cases h0 : os.length = 0
  · obtain ⟨p, cap, rfl⟩ : ∃ p cap, v = .slice p 0 cap := by
      obtain ⟨p, cap, _, _, h, _⟩ := h.reads.at
      rw [h0] at h
      exact ⟨p, cap, h⟩
    clear h
    go_enter Try.func15, Try.ntmps15
    go_wp2_with fail
    go_loopw [2] (fun i wr => i = .int .i64 0 ∧ wr = W) (fun _ _ => 0)
    case atStart => exact ⟨rfl, rfl⟩
    case round =>
      obtain ⟨rfl, rfl⟩ := hrel
      go_wp2_with fail
      go_end0
      exact ⟨rfl, grown_self _ _⟩
  · obtain ⟨g, cap, rfl, hcap, _⟩ := h.form (by omega)
    have H := Lib.hid h.1
    have HL : Hid (∀ k, k < os.length → ∃ z, (cellsO os)[2 * k]? = some (.int .i64 z)) := Lib.hid fun k hk => ⟨_, (cellsO_at os k hk).1⟩
    clear h h0
    generalize hn : os.length = n at *
    go_enter Try.func15, Try.ntmps15
    go_wp2_with fail
    go_loopw [2] (fun i wr => ∃ k : Nat, k ≤ n ∧ i = .int .i64 k ∧ W.grownBy wr (some g) ∧ ∃ xs, wr.ownsRow w.heap.size 46 2 (.slice (some ⟨g, 0, none⟩) n cap) n xs ∧ ∀ j, 2 * k ≤ j → xs[j]? = (cellsO os)[j]?) (fun i _ => n - (intOf i).toNat)
    case atStart => exact ⟨0, by omega, rfl, grown_self _ _, cellsO os, H.out, fun _ _ => rfl⟩
    case round =>
      obtain ⟨k, hk, rfl, hg, xs, hx, hj⟩ := hrel
      have HG := Lib.hid hg
      have HX := Lib.hid hx
      have HJ := Lib.hid hj
      clear hg hx hj
      by_cases hlt : k < n
      · have hi := fun W => opt_index g 0 n cap k hlt W
        obtain ⟨z, hz⟩ := HL.out k hlt
        have hc : wr.cell? ⟨g, 2 * k, none⟩ = some (.int .i64 z) := by
          rw [HX.out.cellAt (2 * k) (by omega), HJ.out _ (Nat.le_refl _), hz]
        clear hz
        have hf := HX.out.frozenAt (2 * k)
        have HX2 := Lib.hid fun u => HX.out.stored (2 * k) u
        rw [show (0 + 2 * k) = 2 * k by omega] at hi
        have HJ2 : Hid (∀ u j, 2 * (k + 1) ≤ j → (xs.set (2 * k) u)[j]? = (cellsO os)[j]?) := Lib.hid fun u j h => by
          rw [List.getElem?_set_ne (by omega)]; exact HJ.out j (by omega)
        obtain ⟨o8, ho8⟩ : ∃ o8, o8 = 2 * k := ⟨_, rfl⟩
        rw [← ho8] at hi hc hf HX2 HJ2
        clear ho8
        obtain ⟨zx, hzx⟩ : ∃ zx, zx = bits .xor .i64 z 90 := ⟨_, rfl⟩
        have hsome := hzx.symm
        clear hzx
        go_wp2_with fail
        go_roundw
        case rel => exact ⟨k + 1, by omega, by go_num, HG.out.trans (HX2.out _).2, _, (HX2.out _).1, HJ2.out _⟩
        case measure => simp [intOf]; omega
      · obtain rfl : k = n := by omega
        go_wp2_with fail
        go_end0
        exact ⟨rfl, HG.out⟩
end Go.Proofs.Ytmonoicdejallaa
