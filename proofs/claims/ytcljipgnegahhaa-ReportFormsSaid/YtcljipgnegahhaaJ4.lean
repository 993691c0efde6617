/-
  Contract of the program's Get of numbers.
-/
import Derived.Test.YtcljipgnegahhaaJMath
import Derived.Test.YtcljipgnegahhaaInts
import Derived.Test.YtcljipgnegahhaaHigh
import Derived.BigRegion
namespace Go.Proofs.Ytcljipgnegahhaa.J
open Go.RowKit
/-- A slice of new numbers, and an error beside it. -/
def GetPost (r : List Int × Int) (w : World) (e : Ending) (w' : World) : Prop := ∃ v, e = .returned (.tuple #[v, .int .i64 r.2]) ∧ OwnsI w w' v r.1
theorem set_at {w W : World} {g n cap : Nat} {zs : List Int} (hn : zs.length = n) (h : OwnsI w W (.slice (some ⟨g, 0, none⟩) n cap) zs) (hg : w.heap.size ≤ g) (k : Nat) (z : Int) :
    OwnsI w (W.setCell ⟨g, k, none⟩ (.int .i64 z)) (.slice (some ⟨g, 0, none⟩) n cap) (zs.set k z) := by
  subst hn
  exact h.set hg k z
theorem or_byte (n : Nat) (b : UInt8) (h : n < 16777216) : bits BinOp.or IntKind.i64 ((n : Int) * 256) (b.toNat : Int) = ((n * 256 + b.toNat : Nat) : Int) := by
  have hb := b.toNat_lt
  have : n * 256 + b.toNat = (256 * n) ||| b.toNat := by
    have h := Nat.two_pow_add_eq_or_of_lt (i := 8) (b := b.toNat) (by omega) n
    rw [Nat.mul_comm]
    simpa using h
  rw [this, show ((n : Int) * 256) = ((256 * n : Nat) : Int) by omega]
  exact i64_or_nat _ _ (by omega) (by omega)
set_option maxHeartbeats 1600000 in
theorem get_walk (s : ByteArray) (l : List UInt8) (w : World) (h48 : s.size = 48) (hl : l.length = 48) (hb : ∀ k (h : k < s.size) (h2 : k < l.length), s[k] = l[k]) :
    Calls Try.prog 9 #[.string s] w (GetPost (Rep.nums l, 0) w) := by
  have HB := Lib.hid hb
  have HL := Lib.hid hl
  have H48 := Lib.hid h48
  have q1 : ((s.size : Int) != 48) = false := by rw [bne_eq_false_iff_eq]; omega
  have q2 : s.size ≤ 48 := by omega
  have M := fun W => make_ints 12 (by decide) W
  rw [show ((12 : Nat) : Int) = 12 from rfl] at M
  have HM := Lib.hid (OwnsI.laid w _ rfl (List.replicate 12 0) (by decide) _ rfl)
  rw [← Rep.row_start l] at HM
  have HE := Lib.hid (Rep.row_end l hl)
  clear hb hl h48
  go_enter Try.func9, Try.ntmps9
  go_wp2_with fail
  go_loopw [5, 12] (fun _ s12 wr => ∃ k : Nat, k ≤ s.size ∧ s12 = .int .i64 k ∧ OwnsI w wr (.slice (some ⟨w.heap.size, 0, none⟩) 12 12) (Rep.row l k)) (fun _ i _ => s.size - (intOf i).toNat)
  case atStart => exact ⟨0, Nat.zero_le _, rfl, HM.out⟩
  case round =>
    obtain ⟨k, hk, rfl, ho⟩ := hrel
    have HO := Lib.hid ho
    clear ho
    by_cases hlt : k < s.size
    · have hlt2 : (k : Int) < (s.size : Int) := by omega
      obtain ⟨c, hc⟩ : ∃ c, s[k] = c := ⟨_, rfl⟩
      obtain ⟨n, hn, hn2, hn3⟩ := Rep.row_step l k (by have := HL.out; omega) (by omega)
      have HCL : Hid (l[k]'(by have := HL.out; omega) = c) := Lib.hid (by rw [← HB.out k hlt (by have := HL.out; omega)]; exact hc)
      rw [HCL.out] at hn3
      have HN3 := Lib.hid hn3
      obtain ⟨j, hj⟩ : ∃ j, j = k / 4 := ⟨_, rfl⟩
      have hj2 : j < 12 := by omega
      have c0 : wr.cell? ⟨w.heap.size, j, none⟩ = some (.int .i64 (n : Int)) := by
        have hr := HO.out.1.cells rfl j _ (cellsI_at (Rep.row l k) j (by rw [Rep.row_length]; exact hj2))
        rw [add_at, Nat.zero_add] at hr
        rw [hr]
        subst hj
        rw [hn2]
      have hf := HO.out.1.frozenAt j
      have hi := fun W => intI_index w.heap.size 0 12 12 j hj2 W
      rw [Nat.zero_add] at hi
      have HJ := Lib.hid hj
      have f1 : (k : Int) / 4 = (j : Int) := by omega
      have f2 : (0 : Int) ≤ (k : Int) := by omega
      have f3 : bits BinOp.or IntKind.i64 ((n : Int) * 256) (wrap64 (c.toNat : Int)) = ((n * 256 + c.toNat : Nat) : Int) := by
        rw [wrap64_nat _ (by have := c.toNat_lt; omega)]
        exact or_byte n c hn
      obtain ⟨m, hm⟩ : ∃ m : Nat, m = n * 256 + c.toNat := ⟨_, rfl⟩
      rw [← hm] at f3 HN3
      clear hn2 hn3 hj hm HCL
      go_wp2_with fail
      go_region
      have HO2 := Lib.hid (set_at (Rep.row_length l k) HO.out (Nat.le_refl _) j (m : Int)).drew
      clear c0 hf f3
      go_wp2_with fail
      go_roundw
      case rel => exact ⟨k + 1, by omega, by go_num, by rw [HN3.out, ← HJ.out]; exact HO2.out⟩
      case measure => simp [intOf]; omega
    · obtain rfl : k = s.size := by omega
      have h := H48.out
      rw [h, HE.out] at HO
      clear h
      go_wp2_with fail
      go_ret2
      exact ⟨_, rfl, HO.out⟩
theorem jget_any (l : List UInt8) (w : World) : Calls Try.prog 9 #[.string ⟨l.toArray⟩] w (GetPost (Rep.get l) w) := by
  by_cases h : l.length = 48
  · rw [Rep.get_good l h]
    exact get_walk _ l w (by rw [sz, h]) h fun _ _ _ => rfl
  · rw [Rep.get_bad l h]
    have q1 : ((l.length : Int) != 48) = true := by rw [bne_iff_ne]; omega
    clear h
    go_enter Try.func9, Try.ntmps9
    go_wp2_with fail
    go_ret2
    exact ⟨_, rfl, OwnsI.nil w⟩
end Go.Proofs.Ytcljipgnegahhaa.J
