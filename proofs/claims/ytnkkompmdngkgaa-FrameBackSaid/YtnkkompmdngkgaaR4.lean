/-
  Contracts: a prefix of two bytes taken off.
-/
import Derived.Test.YtnkkompmdngkgaaR3
namespace Go.Proofs.Ytnkkompmdngkgaa.R
open Go.RowKit
theorem head_of (p d : List UInt8) (h : p.length = 2) : (ByteArray.mk (p ++ d).toArray).extract 0 2 = ⟨p.toArray⟩ ∧ (ByteArray.mk (p ++ d).toArray).extract 2 (ByteArray.mk (p ++ d).toArray).size = ⟨d.toArray⟩ := by
  constructor
  · apply ByteArray.ext; apply Array.toList_inj.1; simp [ByteArray.data_extract, List.extract, h]
  · apply ByteArray.ext; apply Array.toList_inj.1
    simp [ByteArray.data_extract, List.extract, h, ByteArray.size]
set_option maxHeartbeats 400000 in
theorem has_any (s : ByteArray) (p : List UInt8) (w : World) (hs : s.size ≤ maxLen) (h2 : 2 ≤ s.size) (hp : s.extract 0 2 = ⟨p.toArray⟩) :
    Calls Try.prog 44 #[.string s, .string ⟨#[255, 3]⟩] w fun e w' => e = .returned (.bool (p == [255, 3])) ∧ w = w' := by
  unfold maxLen at hs
  by_cases h : p = [255, 3]
  · have hq : (p == [255, 3]) = true := by simpa using h
    rw [hq]
    subst h
    clear hq
    go_enter Try.func44, Try.ntmps44
    go_wp2_with fail
    go_ret
    exact ⟨rfl, rfl⟩
  · have hq : (p == [255, 3]) = false := by simpa using h
    rw [hq]
    clear h
    go_enter Try.func44, Try.ntmps44
    go_wp2_with fail
    go_ret
    exact ⟨rfl, rfl⟩
/-- What is left of a text, and whether the two bytes stood there. -/
theorem slcut_any (s t : ByteArray) (b : Bool) (w : World) (h3 : 2 ≤ s.size) (h4 : s.size ≤ 9223372036854775807) (e2 : s.extract 2 s.size = t)
    (H : Hid (∀ w, Calls Try.prog 44 #[.string s, .string ⟨#[255, 3]⟩] w fun e w' => e = .returned (.bool b) ∧ w = w')) :
    Calls Try.prog 39 #[.string s, .string ⟨#[255, 3]⟩] w fun e w' => e = .returned (.tuple #[.string (if b then t else s), .bool b]) ∧ w = w' := by
  cases b
  · go_enter Try.func39, Try.ntmps39
    go_wp2_with fail
    refine (H.out _).mono ?_
    rintro e w1 ⟨rfl, rfl⟩
    go_wp2_with fail
    go_ret2
    exact ⟨rfl, rfl⟩
  · go_enter Try.func39, Try.ntmps39
    go_wp2_with fail
    refine (H.out _).mono ?_
    rintro e w1 ⟨rfl, rfl⟩
    go_wp2_with fail
    go_ret2
    exact ⟨rfl, rfl⟩
theorem cut_any (s t : ByteArray) (b : Bool) (w : World) (h3 : 2 ≤ s.size) (h4 : s.size ≤ 9223372036854775807) (e2 : s.extract 2 s.size = t)
    (H : Hid (∀ w, Calls Try.prog 44 #[.string s, .string ⟨#[255, 3]⟩] w fun e w' => e = .returned (.bool b) ∧ w = w')) :
    Calls Try.prog 28 #[.string s, .string ⟨#[255, 3]⟩] w fun e w' => e = .returned (.tuple #[.string (if b then t else s), .bool b]) ∧ w = w' := by
  have C := Lib.hid fun w => slcut_any s t b w h3 h4 e2 H
  generalize (if b then t else s) = r at *
  go_enter Try.func28, Try.ntmps28
  go_wp2_with fail
  refine (C.out _).mono ?_
  rintro e w1 ⟨rfl, rfl⟩
  go_wp2_with fail
  go_ret2
  exact ⟨rfl, rfl⟩
theorem cut_both (p d : List UInt8) (b : Bool) (w : World) (hp : p.length = 2) (hb : (p == [255, 3]) = b) (hs : d.length ≤ 281474976710000) :
    Calls Try.prog 28 #[.string ⟨(p ++ d).toArray⟩, .string ⟨#[255, 3]⟩] w fun e w' => e = .returned (.tuple #[.string (if b then ⟨d.toArray⟩ else ⟨(p ++ d).toArray⟩), .bool b]) ∧ w = w' := by
  have hz : (ByteArray.mk (p ++ d).toArray).size = d.length + 2 := by rw [sz]; simp; omega
  have H := fun w => has_any ⟨(p ++ d).toArray⟩ p w (by unfold maxLen; omega) (by omega) (head_of p d hp).1
  rw [hb] at H
  exact cut_any _ _ b w (by omega) (by omega) (head_of p d hp).2 (Lib.hid H)
theorem cut_yes (d : List UInt8) (w : World) (hs : d.length ≤ 281474976710000) :
    Calls Try.prog 28 #[.string ⟨([255, 3] ++ d).toArray⟩, .string ⟨#[255, 3]⟩] w fun e w' => e = .returned (.tuple #[.string ⟨d.toArray⟩, .bool true]) ∧ w = w' :=
  cut_both [255, 3] d true w rfl (by decide) hs
theorem cut_no (p d : List UInt8) (w : World) (hp : p.length = 2) (hne : p ≠ [255, 3]) (hs : d.length ≤ 281474976710000) :
    Calls Try.prog 28 #[.string ⟨(p ++ d).toArray⟩, .string ⟨#[255, 3]⟩] w fun e w' => e = .returned (.tuple #[.string ⟨(p ++ d).toArray⟩, .bool false]) ∧ w = w' :=
  cut_both p d false w hp (by simpa using hne) hs
end Go.Proofs.Ytnkkompmdngkgaa.R
