/-
  Contract of the document's own Unreport.
-/
import Derived.Test.YtcljipgnegahhaaJ4
import Derived.BigRegion
import Derived.Deep.RegionLaw
namespace Go.Proofs.Ytcljipgnegahhaa.J
open Go.RowKit
theorem or_four (a b c d : UInt8) : bits BinOp.or IntKind.i64 (bits BinOp.or IntKind.i64 (bits BinOp.or IntKind.i64 (IntKind.i64.wrap (IntKind.i64.wrap (a.toNat : Int) * 16777216)) (IntKind.i64.wrap (IntKind.i64.wrap (b.toNat : Int) * 65536))) (IntKind.i64.wrap (IntKind.i64.wrap (c.toNat : Int) * 256))) (IntKind.i64.wrap (d.toNat : Int)) = ((Rep.val [a, b, c, d] : Nat) : Int) := by
  have ha := a.toNat_lt
  have hb := b.toNat_lt
  have hc := c.toNat_lt
  have hd := d.toNat_lt
  rw [i64_wrap a.toNat (by omega), i64_wrap b.toNat (by omega), i64_wrap c.toNat (by omega), i64_wrap d.toNat (by omega)]
  have e1 : IntKind.i64.wrap ((a.toNat : Int) * 16777216) = ((16777216 * a.toNat : Nat) : Int) := by rw [IntWalk.i64_in _ (by omega)]; omega
  have e2 : IntKind.i64.wrap ((b.toNat : Int) * 65536) = ((65536 * b.toNat : Nat) : Int) := by rw [IntWalk.i64_in _ (by omega)]; omega
  have e3 : IntKind.i64.wrap ((c.toNat : Int) * 256) = ((256 * c.toNat : Nat) : Int) := by rw [IntWalk.i64_in _ (by omega)]; omega
  rw [e1, e2, e3]
  have o1 := Nat.two_pow_add_eq_or_of_lt (i := 24) (b := 65536 * b.toNat) (by omega) a.toNat
  have o2 := Nat.two_pow_add_eq_or_of_lt (i := 16) (b := 256 * c.toNat) (by omega) (a.toNat * 256 + b.toNat)
  have o3 := Nat.two_pow_add_eq_or_of_lt (i := 8) (b := d.toNat) (by omega) ((a.toNat * 256 + b.toNat) * 256 + c.toNat)
  rw [i64_or_nat _ _ (by omega) (by omega)]
  rw [show 16777216 * a.toNat = 2 ^ 24 * a.toNat from rfl, ← o1]
  rw [i64_or_nat _ _ (by omega) (by omega)]
  rw [show 2 ^ 24 * a.toNat + 65536 * b.toNat = 2 ^ 16 * (a.toNat * 256 + b.toNat) by omega, ← o2]
  rw [i64_or_nat _ _ (by omega) (by omega)]
  rw [show 2 ^ 16 * (a.toNat * 256 + b.toNat) + 256 * c.toNat = 2 ^ 8 * ((a.toNat * 256 + b.toNat) * 256 + c.toNat) by omega, ← o3]
  rw [Rep.val_four]
  congr 1
  omega
set_option maxHeartbeats 1600000 in
theorem un_walk (s : ByteArray) (l : List UInt8) (w : World) (h48 : s.size = 48) (hl : l.length = 48) (hb : ∀ k (h : k < s.size) (h2 : k < l.length), s[k] = l[k]) :
    Calls Try.prog 10 #[.string s] w (GetPost (Rep.nums l, 0) w) := by
  have HB := Lib.hid hb
  have HL := Lib.hid hl
  have q1 : ((s.size : Int) != 48) = false := by rw [bne_eq_false_iff_eq]; omega
  have q2 : 48 ≤ s.size := by omega
  clear hb hl h48
  go_enter Try.func10, Try.ntmps10
  go_wp2_with fail
  go_loopw [4, 5] (fun s4 s5 wr => ∃ i k : Nat, i = 4 * k ∧ k ≤ 12 ∧ s5 = .int .i64 i ∧ OwnsI w wr s4 (Rep.nums (l.take (4 * k)))) (fun _ i _ => 48 - (intOf i).toNat)
  case atStart => exact ⟨0, 0, rfl, Nat.zero_le _, rfl, OwnsI.nil w⟩
  case round =>
    obtain ⟨i, k, hik, hk, rfl, ho⟩ := hrel
    have HO := Lib.hid ho
    clear ho
    by_cases hlt : k < 12
    · have hi48 : i < 48 := by omega
      have p0 : i < s.size := by omega
      have p1 : i + 1 < s.size := by omega
      have p2 : i + 2 < s.size := by omega
      have p3 : i + 3 < s.size := by omega
      have HN := Lib.hid (Rep.nums_snoc l k (by have := HL.out; omega))
      obtain ⟨a, ha⟩ : ∃ c, s[i] = c := ⟨_, rfl⟩
      obtain ⟨b, hb⟩ : ∃ c, s[i + 1] = c := ⟨_, rfl⟩
      obtain ⟨c, hc⟩ : ∃ c, s[i + 2] = c := ⟨_, rfl⟩
      obtain ⟨d, hd⟩ : ∃ c, s[i + 3] = c := ⟨_, rfl⟩
      have HV : Hid (Rep.nums (l.take (4 * (k + 1))) = Rep.nums (l.take (4 * k)) ++ [(Rep.val [a, b, c, d] : Int)]) := Lib.hid (by
        subst hik
        rw [HB.out _ p0 (by have := HL.out; omega)] at ha
        rw [HB.out _ p1 (by have := HL.out; omega)] at hb
        rw [HB.out _ p2 (by have := HL.out; omega)] at hc
        rw [HB.out _ p3 (by have := HL.out; omega)] at hd
        rw [HN.out, ha, hb, hc, hd])
      have f := or_four a b c d
      have hlen := Rep.nums_length k (l.take (4 * k)) (by have := HL.out; rw [List.length_take]; omega)
      generalize Rep.nums (l.take (4 * k)) = acc at *
      generalize Rep.val [a, b, c, d] = n at *
      have HIK := Lib.hid hik
      have HLEN := Lib.hid (show (acc.length + [(n : Int)].length) * 8 ≤ 140737488355328 by rw [hlen]; simp; omega)
      have e1 : IntKind.i64.wrap ((i : Int) + 1) = (i : Int) + 1 := IntWalk.i64_in _ (by omega)
      have e2 : IntKind.i64.wrap ((i : Int) + 2) = (i : Int) + 2 := IntWalk.i64_in _ (by omega)
      have e3 : IntKind.i64.wrap ((i : Int) + 3) = (i : Int) + 3 := IntWalk.i64_in _ (by omega)
      have t1 : ((i : Int) + 1).toNat = i + 1 := by omega
      have t2 : ((i : Int) + 2).toNat = i + 2 := by omega
      have t3 : ((i : Int) + 3).toNat = i + 3 := by omega
      have g0 : (i : Int) < (s.size : Int) := by omega
      have g1 : (i : Int) + 1 < (s.size : Int) := by omega
      have g2 : (i : Int) + 2 < (s.size : Int) := by omega
      have g3 : (i : Int) + 3 < (s.size : Int) := by omega
      have z1 : (0 : Int) ≤ (i : Int) + 1 := by omega
      have z2 : (0 : Int) ≤ (i : Int) + 2 := by omega
      have z3 : (0 : Int) ≤ (i : Int) + 3 := by omega
      have HO2 := Lib.hid (HO.out.below ((Below.refl wr.heap.size wr).alloc (Nat.le_refl _) (.cells #[.int .i64 (n : Int)] 3))).drew
      have HL2 := Lib.hid (readsI_lit wr _ rfl [(n : Int)] #[.int .i64 (n : Int)] rfl).drew
      clear hlen hik HN
      go_wp2_with fail
      go_region_law (refine step_catI rfl _ _ rfl acc [(n : Int)] HO2.out HL2.out rfl rfl HLEN.out ?_; intro v' w2 ho2)
      all_goals
        have HO3 := Lib.hid ho2
        clear ho2 e1 e2 e3 t1 t2 t3 f
        go_wp2_with fail
        go_roundw
        case rel => exact ⟨i + 4, k + 1, by have := HIK.out; omega, by omega, by go_num, by rw [HV.out]; exact HO3.out⟩
        case measure => simp [intOf]; omega
    · obtain rfl : k = 12 := by omega
      have h48 : ¬ i < 48 := by omega
      have h := HL.out
      rw [List.take_of_length_le (by omega)] at HO
      clear h hik
      go_wp2_with fail
      go_ret2
      exact ⟨_, rfl, HO.out⟩
theorem un_any (l : List UInt8) (w : World) : Calls Try.prog 10 #[.string ⟨l.toArray⟩] w (GetPost (Rep.get l) w) := by
  by_cases h : l.length = 48
  · rw [Rep.get_good l h]
    exact un_walk _ l w (by rw [sz, h]) h fun _ _ _ => rfl
  · rw [Rep.get_bad l h]
    have q1 : ((l.length : Int) != 48) = true := by rw [bne_iff_ne]; omega
    clear h
    go_enter Try.func10, Try.ntmps10
    go_wp2_with fail
    go_ret2
    exact ⟨_, rfl, OwnsI.nil w⟩
end Go.Proofs.Ytcljipgnegahhaa.J
