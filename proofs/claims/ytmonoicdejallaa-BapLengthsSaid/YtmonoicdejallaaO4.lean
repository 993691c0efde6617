/-
  Contracts: the first option of a text, the program's Get of options.
-/
import Derived.Test.YtmonoicdejallaaO1
import Derived.Test.YtmonoicdejallaaClone
import Derived.Deep.RegionHeld3
import Derived.Deep.RegionWith
namespace Go.Proofs.Ytmonoicdejallaa.O
open Go.RowKit
def zeroO : Value := .agg #[.int .i64 0, .string ⟨#[]⟩]
set_option maxHeartbeats 400000 in
theorem first_short (l : List UInt8) (w : World) (h : l.length < 2) :
    Calls Try.prog 39 #[.string ⟨l.toArray⟩] w fun e w' => e = .returned (.tuple #[zeroO, .string ⟨#[]⟩, .bool false]) ∧ Below w.heap.size w w' := by
  go_enter Try.func39, Try.ntmps39
  go_wp2_with fail
  exact bodyPost_ret (v := .tuple #[.agg #[.int .i64 0, .string ⟨#[]⟩], .string ⟨#[]⟩, .bool false]) (by simp [results, Try.results39, go_sem]) rfl ⟨rfl, (Below.refl _ _).alloc (Nat.le_refl _) _⟩
set_option maxHeartbeats 400000 in
theorem first_bad_walk (s : ByteArray) (x : UInt8) (w : World) (h : 2 ≤ s.size) (hm : s.size ≤ 9223372036854775807) (hx : s[1]'(by omega) = x) (hs : x.toNat < 2 ∨ s.size < x.toNat) :
    Calls Try.prog 39 #[.string s] w fun e w' => e = .returned (.tuple #[zeroO, .string ⟨#[]⟩, .bool false]) ∧ Below w.heap.size w w' := by
  have hi : 1 < s.size := by omega
  have hx2 := x.toNat_lt
  have hw := wrap64_nat x.toNat (by omega)
  by_cases h2 : x.toNat < 2
  · clear hs
    go_enter Try.func39, Try.ntmps39
    go_wp2_with fail
    exact bodyPost_ret (v := .tuple #[.agg #[.int .i64 0, .string ⟨#[]⟩], .string ⟨#[]⟩, .bool false]) (by simp [results, Try.results39, go_sem]) rfl ⟨rfl, (Below.refl _ _).alloc (Nat.le_refl _) _⟩
  · have h3 : s.size < x.toNat := by omega
    clear hs
    go_enter Try.func39, Try.ntmps39
    go_wp2_with fail
    exact bodyPost_ret (v := .tuple #[.agg #[.int .i64 0, .string ⟨#[]⟩], .string ⟨#[]⟩, .bool false]) (by simp [results, Try.results39, go_sem]) rfl ⟨rfl, (Below.refl _ _).alloc (Nat.le_refl _) _⟩
set_option maxHeartbeats 800000 in
theorem first_walk (s D R : ByteArray) (x y : UInt8) (w : World) (h : 2 ≤ s.size) (hm : s.size ≤ 100000) (hx : s[1]'(by omega) = x) (hy : s[0]'(by omega) = y) (h2 : 2 ≤ x.toNat) (h3 : x.toNat ≤ s.size)
    (hD : s.extract 2 x.toNat = D) (hR : s.extract x.toNat s.size = R) (hz : D.size ≤ 281474976710656) :
    Calls Try.prog 39 #[.string s] w fun e w' => e = .returned (.tuple #[.agg #[.int .i64 (y.toNat : Int), .string D], .string R, .bool true]) ∧ Below w.heap.size w w' := by
  have hi : 1 < s.size := by omega
  have hi0 : 0 < s.size := by omega
  have hx2 := x.toNat_lt
  have hy2 := y.toNat_lt
  have hw2 := wrap64_nat y.toNat (by omega)
  have hc := fun w => clone_any D w hz
  have HC := Lib.hid hc
  clear hc
  go_enter Try.func39, Try.ntmps39
  go_wp2_with fail
  go_region_with (go_at_call 42; refine (HC.out _).mono ?_; rintro e w4 ⟨rfl, hb4⟩; have hz4 : w.heap.size < w4.heap.size := (by have := hb4.size; simp at this; omega); obtain ⟨hc4, hf4⟩ := bcell hb4)
  all_goals
    go_wp2_with fail
    have e8 : IntKind.i64.wrap (y.toNat : Int) = (y.toNat : Int) := i64_wrap _ (by omega)
    refine bodyPost_ret (v := .tuple #[.agg #[.int .i64 (y.toNat : Int), .string D], .string R, .bool true]) (by simp [results, Try.results39, go_sem, hc4, e8]) rfl ⟨rfl, ?_⟩
    exact ((((Below.refl _ w).alloc (Nat.le_refl _) _).drew.trans (hb4.mono (by simp))).setCell (by simp) _).setCell (by simp) _
theorem cut_list (l : List UInt8) (a b : Nat) : (ByteArray.mk l.toArray).extract a b = ⟨((l.take b).drop a).toArray⟩ := by
  apply ByteArray.ext; apply Array.toList_inj.1
  simp [ByteArray.data_extract, List.extract, List.drop_take]
theorem tail_list (l : List UInt8) (a : Nat) : (ByteArray.mk l.toArray).extract a (ByteArray.mk l.toArray).size = ⟨(l.drop a).toArray⟩ := by
  rw [sz, cut_list l a, List.take_length]
theorem first_good (l : List UInt8) (w : World) (h : 2 ≤ l.length) (hm : l.length ≤ 100000) (h2 : 2 ≤ (l[1]'(by omega)).toNat) (h3 : (l[1]'(by omega)).toNat ≤ l.length) :
    Calls Try.prog 39 #[.string ⟨l.toArray⟩] w fun e w' => e = .returned (.tuple #[.agg #[.int .i64 ((l[0]'(by omega)).toNat : Int), .string ⟨((l.take (l[1]'(by omega)).toNat).drop 2).toArray⟩], .string ⟨(l.drop (l[1]'(by omega)).toNat).toArray⟩, .bool true]) ∧ Below w.heap.size w w' := by
  refine first_walk ⟨l.toArray⟩ _ _ (l[1]'(by omega)) (l[0]'(by omega)) w (by rw [sz]; exact h) (by rw [sz]; exact hm) rfl rfl h2 (by rw [sz]; exact h3) (cut_list _ _ _) (tail_list _ _) ?_
  rw [sz]; simp; omega
theorem first_bad (l : List UInt8) (w : World) (h : 2 ≤ l.length) (hm : l.length ≤ 100000) (hs : (l[1]'(by omega)).toNat < 2 ∨ l.length < (l[1]'(by omega)).toNat) :
    Calls Try.prog 39 #[.string ⟨l.toArray⟩] w fun e w' => e = .returned (.tuple #[zeroO, .string ⟨#[]⟩, .bool false]) ∧ Below w.heap.size w w' :=
  first_bad_walk ⟨l.toArray⟩ (l[1]'(by omega)) w (by rw [sz]; exact h) (by rw [sz]; omega) rfl (by rw [sz]; exact hs)
end Go.Proofs.Ytmonoicdejallaa.O
