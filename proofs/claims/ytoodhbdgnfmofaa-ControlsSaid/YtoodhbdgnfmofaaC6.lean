/-
  Contract of the program's Get of a packet.
-/
import Derived.Test.YtoodhbdgnfmofaaC5
import Derived.Test.YtoodhbdgnfmofaaHigh
import Derived.BigRegion
import Derived.Deep.QuietTactic
import Derived.BigQuiet
namespace Go.Proofs.Ytoodhbdgnfmofaa.C
open Go.RowKit
def zeroP : Value := .agg #[.int .i64 0, .int .i64 0, .slice none 0 0, .string ⟨#[]⟩]
set_option maxHeartbeats 400000 in
theorem get_short_walk (s : ByteArray) (w : World) (h : s.size < 4) :
    Calls Try.prog 11 #[.string s] w fun e w' => e = .returned (.tuple #[.agg #[.int .i64 0, .int .i64 0, .slice none 0 0, .string ⟨#[]⟩], .int .i64 500]) ∧ Below w.heap.size w w' := by
  go_enter Try.func11, Try.ntmps11
  go_wp2_with fail
  refine bodyPost_ret (v := .tuple #[.agg #[.int .i64 0, .int .i64 0, .slice none 0 0, .string ⟨#[]⟩], .int .i64 500]) (by simp [results, Try.results11, go_sem]) rfl ⟨rfl, ?_⟩
  exact (Below.refl _ w).alloc (Nat.le_refl _) _
set_option maxHeartbeats 800000 in
theorem get_length_walk (s : ByteArray) (k : Nat) (w : World) (h : 4 ≤ s.size) (hm : s.size ≤ 9223372036854775807) (hk : (s[2]'(by omega)).toNat * 256 + (s[3]'(by omega)).toNat = k) (hs : k < 4 ∨ s.size < k) :
    Calls Try.prog 11 #[.string s] w fun e w' => e = .returned (.tuple #[.agg #[.int .i64 0, .int .i64 0, .slice none 0 0, .string ⟨#[]⟩], .int .i64 501]) ∧ Below w.heap.size w w' := by
  have hx := high_or (s[2]'(by omega)) (s[3]'(by omega))
  rw [hk] at hx
  have p2 : 2 < s.size := by omega
  have p3 : 3 < s.size := by omega
  have q2 : (2 : Int) < (s.size : Int) := by omega
  have q3 : (3 : Int) < (s.size : Int) := by omega
  clear hk
  by_cases h1 : k < 4
  · clear hs
    go_enter Try.func11, Try.ntmps11
    go_wp2_with fail
    go_region
    go_wp2_with fail
    refine bodyPost_ret (v := .tuple #[.agg #[.int .i64 0, .int .i64 0, .slice none 0 0, .string ⟨#[]⟩], .int .i64 501]) (by simp [results, Try.results11, go_sem]) rfl ⟨rfl, ?_⟩
    exact ((Below.refl _ w).alloc (Nat.le_refl _) _).drew
  · have h2 : s.size < k := by omega
    clear hs
    go_enter Try.func11, Try.ntmps11
    go_wp2_with fail
    go_region
    go_wp2_with fail
    refine bodyPost_ret (v := .tuple #[.agg #[.int .i64 0, .int .i64 0, .slice none 0 0, .string ⟨#[]⟩], .int .i64 501]) (by simp [results, Try.results11, go_sem]) rfl ⟨rfl, ?_⟩
    exact ((Below.refl _ w).alloc (Nat.le_refl _) _).drew
set_option maxHeartbeats 800000 in
theorem get_long_walk (s : ByteArray) (k : Nat) (w : World) (h : 4 ≤ s.size) (hm : s.size ≤ 9223372036854775807) (hk : (s[2]'(by omega)).toNat * 256 + (s[3]'(by omega)).toNat = k) (h2 : k ≤ s.size) (h3 : 2048 < k) :
    Calls Try.prog 11 #[.string s] w fun e w' => e = .returned (.tuple #[.agg #[.int .i64 0, .int .i64 0, .slice none 0 0, .string ⟨#[]⟩], .int .i64 503]) ∧ Below w.heap.size w w' := by
  have hx := high_or (s[2]'(by omega)) (s[3]'(by omega))
  rw [hk] at hx
  have p2 : 2 < s.size := by omega
  have p3 : 3 < s.size := by omega
  have q2 : (2 : Int) < (s.size : Int) := by omega
  have q3 : (3 : Int) < (s.size : Int) := by omega
  clear hk
  go_enter Try.func11, Try.ntmps11
  go_wp2_with fail
  go_region
  go_wp2_with fail
  refine bodyPost_ret (v := .tuple #[.agg #[.int .i64 0, .int .i64 0, .slice none 0 0, .string ⟨#[]⟩], .int .i64 503]) (by simp [results, Try.results11, go_sem]) rfl ⟨rfl, ?_⟩
  exact ((Below.refl _ w).alloc (Nat.le_refl _) _).drew
set_option maxHeartbeats 1600000 in
theorem get_held_walk (s D : ByteArray) (x y : UInt8) (k : Nat) (r : Ctl.Pk × Int) (w : World) (h : 4 ≤ s.size) (hm : s.size ≤ 9223372036854775807) (hk : (s[2]'(by omega)).toNat * 256 + (s[3]'(by omega)).toNat = k) (h1 : 4 ≤ k) (h2 : k ≤ s.size) (h3 : k ≤ 2048)
    (hx0 : s[0]'(by omega) = x) (hy0 : s[1]'(by omega) = y) (hD : s.extract 4 k = D)
    (K : Hid (∀ W, Calls Try.prog 24 #[.agg #[.int .i64 (x.toNat : Int), .int .i64 (y.toNat : Int), .slice none 0 0, .string ⟨#[]⟩], .string D] W (PkPost r W))) :
    Calls Try.prog 11 #[.string s] w (PkPost r w) := by
  have hx := high_or (s[2]'(by omega)) (s[3]'(by omega))
  rw [hk] at hx
  have p0 : 0 < s.size := by omega
  have p1 : 1 < s.size := by omega
  have p2 : 2 < s.size := by omega
  have p3 : 3 < s.size := by omega
  have q0 : (0 : Int) < (s.size : Int) := by omega
  have q1 : (1 : Int) < (s.size : Int) := by omega
  have q2 : (2 : Int) < (s.size : Int) := by omega
  have q3 : (3 : Int) < (s.size : Int) := by omega
  have e1 : wrap64 (x.toNat : Int) = (x.toNat : Int) := wrap64_nat _ (by have := x.toNat_lt; omega)
  have e2 : wrap64 (y.toNat : Int) = (y.toNat : Int) := wrap64_nat _ (by have := y.toNat_lt; omega)
  have f1 : IntKind.i64.wrap (x.toNat : Int) = (x.toNat : Int) := i64_wrap _ (by have := x.toNat_lt; omega)
  have f2 : IntKind.i64.wrap (y.toNat : Int) = (y.toNat : Int) := i64_wrap _ (by have := y.toNat_lt; omega)
  have g1 : (4 : Int) ≤ (k : Int) := by omega
  have g2 : (k : Int) ≤ (s.size : Int) := by omega
  have g3 : (0 : Int) ≤ (k : Int) := by omega
  have X1 := Lib.hid (Box.new w [.int .i64 0, .int .i64 0, .slice none 0 0, .string ⟨#[]⟩] 24).drew.drew
  have HB := Lib.hid ((Below.refl w.heap.size w).alloc (Nat.le_refl _) (.cells #[.int .i64 0, .int .i64 0, .slice none 0 0, .string ⟨#[]⟩] 24)).drew.drew
  clear hk
  go_enter Try.func11, Try.ntmps11
  go_wp2_with fail
  go_region
  go_wp2_with fail
  go_region_with (go_at_call 24; refine (K.out _).mono ?_; rintro e w4 ⟨v, rfl, ho⟩; obtain ⟨p, cap, rfl⟩ := ho.form2; have hb4 := ho.2; have hz4 : w.heap.size < w4.heap.size := (by have := hb4.size; simp at this; omega); obtain ⟨hc4, hf4⟩ := bcell hb4; have Y1 := X1.out.below hb4; have m0 := Y1 0 _ rfl; have m1 := Y1 1 _ rfl; have m2 := Y1 2 _ rfl; have m3 := Y1 3 _ rfl; have fz : ∀ o, w4.frozen? ⟨w.heap.size, o, none⟩ = false := (fun o => (hf4 _ _ (by simp)).trans (by simp)); clear Y1 hc4 hf4)
  all_goals
    have A1 := Lib.hid (ho.above (b := w.heap.size) (by simp))
    have HO := Lib.hid (ho.base (w := w) HB.out)
    clear ho hb4
    go_wp2_with fail
    refine bodyPost_ret (v := .tuple #[.agg #[.int .i64 r.1.1, .int .i64 r.1.2.1, .slice p r.1.2.2.1.length cap, .string ⟨r.1.2.2.2.toArray⟩], .int .i64 r.2]) (by simp [results, Try.results11, go_sem, m0, m1, m2, m3]) rfl ⟨_, rfl, ?_⟩
    repeat (first | (with_reducible exact HO.out) | (refine OwnsO.setCell ?_ ?_ ?_ _; rotate_left; exact Nat.le_refl _; exact A1.out))
theorem byte_at (l : List UInt8) (j : Nat) (h : j < l.length) : (ByteArray.mk l.toArray)[j]'(by rw [sz]; exact h) = l[j] := rfl
/-- The contract of Get. -/
theorem cget_any (l : List UInt8) (w : World) (hm : l.length ≤ 9223372036854775807) : Calls Try.prog 11 #[.string ⟨l.toArray⟩] w (PkPost (Ctl.get l) w) := by
  have hs := sz l
  by_cases h : l.length < 4
  · rw [Ctl.get_short l h]
    refine (get_short_walk ⟨l.toArray⟩ w (by rw [hs]; exact h)).mono ?_
    rintro e w' ⟨rfl, hb⟩
    exact ⟨_, rfl, World.ownsRow_nil _ _ _ _, hb⟩
  · have h4 : 4 ≤ l.length := by omega
    by_cases h1 : Ctl.size l h4 < 4 ∨ l.length < Ctl.size l h4
    · rw [Ctl.get_length l h4 h1]
      refine (get_length_walk ⟨l.toArray⟩ (Ctl.size l h4) w (by rw [hs]; exact h4) (by rw [hs]; exact hm) rfl (by rw [hs]; exact h1)).mono ?_
      rintro e w' ⟨rfl, hb⟩
      exact ⟨_, rfl, World.ownsRow_nil _ _ _ _, hb⟩
    · by_cases h2 : 2048 < Ctl.size l h4
      · rw [Ctl.get_long l h4 (by omega) (by omega) h2]
        refine (get_long_walk ⟨l.toArray⟩ (Ctl.size l h4) w (by rw [hs]; exact h4) (by rw [hs]; exact hm) rfl (by rw [hs]; omega) h2).mono ?_
        rintro e w' ⟨rfl, hb⟩
        exact ⟨_, rfl, World.ownsRow_nil _ _ _ _, hb⟩
      · rw [Ctl.get_held l h4 (by omega) (by omega) (by omega)]
        refine get_held_walk ⟨l.toArray⟩ ⟨((l.take (Ctl.size l h4)).drop 4).toArray⟩ (l[0]'(by omega)) (l[1]'(by omega)) (Ctl.size l h4) _ w (by rw [hs]; exact h4) (by rw [hs]; exact hm) rfl (by omega) (by rw [hs]; omega) (by omega) rfl rfl (O.cut_list l _ _) (Lib.hid fun W => with_any _ _ _ W ?_)
        rw [List.length_drop, List.length_take]
        omega
end Go.Proofs.Ytoodhbdgnfmofaa.C
