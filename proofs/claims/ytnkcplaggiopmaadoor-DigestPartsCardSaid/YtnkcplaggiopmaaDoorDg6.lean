/-
  The law's own helper: bytes as digits.
-/
import Derived.Test.YtnkcplaggiopmaaDoorDgMath
import Derived.Test.YtnkcplaggiopmaaDoorPushB
import Derived.Deep.RegionLaw
namespace Go.Proofs.YtnkcplaggiopmaaDoor.Dig
theorem hex_snoc (l : List UInt8) (c : UInt8) : hex (l ++ [c]) = hex l ++ [dig (c.toNat / 16), dig (c.toNat % 16)] := by simp [hex]
theorem hex_length (l : List UInt8) : (hex l).length = 2 * l.length := by
  induction l with
  | nil => rfl
  | cons c l ih =>
    have e : hex (c :: l) = [dig (c.toNat / 16), dig (c.toNat % 16)] ++ hex l := rfl
    rw [e, List.length_append, ih]
    simp
    omega
end Go.Proofs.YtnkcplaggiopmaaDoor.Dig
namespace Go.Proofs.YtnkcplaggiopmaaDoor.Dg
open Go.RowKit
def digs : ByteArray := { data := #[48, 49, 50, 51, 52, 53, 54, 55, 56, 57, 97, 98, 99, 100, 101, 102] }
theorem digs_at (q : Nat) (h : q < 16) (h2 : q < digs.size) : digs[q] = Dig.dig q := by
  have : ∀ q : Fin 16, digs[q.val]'(by have := q.isLt; exact this) = Dig.dig q.val := by decide +kernel
  exact this ⟨q, h⟩
theorem digs_of (i q : Nat) (e : i = q) (h : q < 16) (h2 : i < ({ data := #[48, 49, 50, 51, 52, 53, 54, 55, 56, 57, 97, 98, 99, 100, 101, 102] } : ByteArray).size) : ({ data := #[48, 49, 50, 51, 52, 53, 54, 55, 56, 57, 97, 98, 99, 100, 101, 102] } : ByteArray)[i]'h2 = Dig.dig q := by
  subst e
  exact digs_at i h h2
theorem dig_hi (c : UInt8) : IntKind.u8.wrap ((c.toNat : Int) / 16) < 16 ∧ ∀ h, ({ data := #[48, 49, 50, 51, 52, 53, 54, 55, 56, 57, 97, 98, 99, 100, 101, 102] } : ByteArray)[(IntKind.u8.wrap ((c.toNat : Int) / 16)).toNat]'h = Dig.dig (c.toNat / 16) := by
  have hc := c.toNat_lt
  have e : IntKind.u8.wrap ((c.toNat : Int) / 16) = ((c.toNat / 16 : Nat) : Int) := by
    have : IntKind.u8.wrap ((c.toNat : Int) / 16) = ((c.toNat : Int) / 16) % 256 := by simp [IntKind.wrap, IntKind.bits, IntKind.signed]
    rw [this]
    omega
  have e2 : (IntKind.u8.wrap ((c.toNat : Int) / 16)).toNat = c.toNat / 16 := by rw [e]; rfl
  refine ⟨by rw [e]; omega, fun h => ?_⟩
  exact digs_of _ _ e2 (by omega) h
theorem dig_lo (c : UInt8) : (0 ≤ ((c.toNat : Int)).tmod 16 ∧ ((c.toNat : Int)).tmod 16 < 16) ∧ ∀ h, ({ data := #[48, 49, 50, 51, 52, 53, 54, 55, 56, 57, 97, 98, 99, 100, 101, 102] } : ByteArray)[(((c.toNat : Int)).tmod 16).toNat]'h = Dig.dig (c.toNat % 16) := by
  have e : ((c.toNat : Int)).tmod 16 = ((c.toNat % 16 : Nat) : Int) := by
    rw [Int.tmod_eq_emod_of_nonneg (by omega)]
    rfl
  have e2 : (((c.toNat : Int)).tmod 16).toNat = c.toNat % 16 := by rw [e]; rfl
  refine ⟨by rw [e]; omega, fun h => ?_⟩
  exact digs_of _ _ e2 (by omega) h
set_option maxHeartbeats 1600000 in
theorem hex_walk (s : ByteArray) (w : World) (hs : s.size ≤ 100000) : Calls Tryd.prog 13 #[.string s] w fun e w' => e = .returned (.string ⟨(Dig.hex s.data.toList).toArray⟩) ∧ Below w.heap.size w w' := by
  go_enter Tryd.func13, Tryd.ntmps13
  go_wp2_with fail
  go_loopw [4, 5] (fun s4 s5 wr => ∃ k : Nat, k ≤ s.size ∧ s5 = .int .i64 (k : Int) ∧ Owns w wr s4 (Dig.hex (s.data.toList.take k))) (fun _ s5 _ => s.size - (intOf s5).toNat)
  case atStart => exact ⟨0, by omega, rfl, Owns.nil w⟩
  case round =>
    obtain ⟨k, hk, rfl, ho⟩ := hrel
    have HO := Lib.hid ho
    clear ho
    by_cases hlt : k < s.size
    · have HT := Lib.hid (Dig.hex_snoc (s.data.toList.take k) s[k])
      have HT2 := Lib.hid (take_snoc s k hlt)
      have hol : (Dig.hex (s.data.toList.take k)).length ≤ 2 * k := by rw [Dig.hex_length, List.length_take]; omega
      obtain ⟨b1, v1⟩ := dig_hi s[k]
      obtain ⟨b2, v2⟩ := dig_lo s[k]
      have HNB := Lib.hid (newOwn wr.drew [Dig.dig (s[k].toNat / 16), Dig.dig (s[k].toNat % 16)] _ rfl)
      have HO2 := Lib.hid (HO.out.below ((Below.refl wr.heap.size wr).drew.alloc (Nat.le_refl _) (.cells (Lib.byteCells [Dig.dig (s[k].toNat / 16), Dig.dig (s[k].toNat % 16)]).toArray 5)))
      have hlen : (Dig.hex (s.data.toList.take k)).length + [Dig.dig (s[k].toNat / 16), Dig.dig (s[k].toNat % 16)].length ≤ 1073741824 := by simp; omega
      go_wp2_with fail
      go_region_law (refine step_pushB rfl _ _ rfl (Dig.hex (s.data.toList.take k)) [Dig.dig (s[k].toNat / 16), Dig.dig (s[k].toNat % 16)] HO2.out HNB.out rfl rfl hlen ?_; intro v' w2 ho2)
      all_goals
        have HO3 : Hid (Owns w w2 v' (Dig.hex (s.data.toList.take (k + 1)))) := Lib.hid (by rw [HT2.out, HT.out]; exact ho2)
        clear ho2 b1 b2 v1 v2 HNB HO2 HT
        go_wp2_with fail
        go_roundw
        case rel => exact ⟨k + 1, by omega, by go_num, HO3.out⟩
        case measure => simp [intOf]; omega
    · obtain rfl : k = s.size := by omega
      have ho := HO.out
      rw [List.take_of_length_le (by simp)] at ho
      have hcv := ho.text
      have HB9 := Lib.hid ho.2
      clear ho
      go_wp2_with fail
      go_ret
      exact ⟨rfl, HB9.out⟩
theorem hex_any (l : List UInt8) (w : World) (hs : l.length ≤ 100000) : Calls Tryd.prog 13 #[.string ⟨l.toArray⟩] w fun e w' => e = .returned (.string ⟨(Dig.hex l).toArray⟩) ∧ Below w.heap.size w w' :=
  hex_walk ⟨l.toArray⟩ w (by rw [sz]; exact hs)
end Go.Proofs.YtnkcplaggiopmaaDoor.Dg
