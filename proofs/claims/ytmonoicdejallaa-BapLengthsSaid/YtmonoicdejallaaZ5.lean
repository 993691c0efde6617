/-
  Contract of the program's cut: the head, and what stands behind it.
-/
import Derived.Test.YtmonoicdejallaaZ4
import Derived.Test.YtmonoicdejallaaHigh
import Derived.BigRegion
namespace Go.Proofs.Ytmonoicdejallaa.Z
open Go.RowKit
/-- A head, a text, a number; nothing that was there has turned. -/
def CutPost (x y : Int) (D : ByteArray) (k : Int) (w : World) (e : Ending) (w' : World) : Prop := e = .returned (.tuple #[.agg #[.int .i64 x, .int .i64 y], .string D, .int .i64 k]) ∧ Below w.heap.size w w'
set_option maxHeartbeats 400000 in
theorem cut_short (s : ByteArray) (w : World) (h : s.size < 4) : Calls Try.prog 24 #[.string s] w (CutPost 0 0 ⟨#[]⟩ 900 w) := by
  go_enter Try.func24, Try.ntmps24
  go_wp2_with fail
  refine bodyPost_ret (v := .tuple #[.agg #[.int .i64 0, .int .i64 0], .string ⟨#[]⟩, .int .i64 900]) (by simp [results, Try.results24, go_sem]) rfl ⟨rfl, ?_⟩
  exact (Below.refl _ w).alloc (Nat.le_refl _) _
set_option maxHeartbeats 1600000 in
theorem cut_length (s : ByteArray) (k : Nat) (x y : UInt8) (w : World) (h : 4 ≤ s.size) (hm : s.size ≤ 9223372036854775807) (hk : (s[2]'(by omega)).toNat * 256 + (s[3]'(by omega)).toNat = k) (hs : k < 4 ∨ s.size < k)
    (hx0 : s[0]'(by omega) = x) (hy0 : s[1]'(by omega) = y) :
    Calls Try.prog 24 #[.string s] w (CutPost 0 0 ⟨#[]⟩ 900 w) := by
  have hx := high_or (s[2]'(by omega)) (s[3]'(by omega))
  rw [hk] at hx
  have p0 : 0 < s.size := by omega
  have p1 : 1 < s.size := by omega
  have p2 : 2 < s.size := by omega
  have p3 : 3 < s.size := by omega
  have q0 : (0 : Int) < (s.size : Int) := by omega
  have q1 : (1 : Int) < (s.size : Int) := by omega
  have q2 : (2 : Int) < (s.size : Int) := by omega
  have q3 : (3 : Int) < (s.size : Int) := by omega
  have e1 : wrap64 (x.toNat : Int) = (x.toNat : Int) := wrap64_nat _ (by have := x.toNat_lt; omega)
  have e2 : wrap64 (y.toNat : Int) = (y.toNat : Int) := wrap64_nat _ (by have := y.toNat_lt; omega)
  clear hk
  by_cases h1 : k < 4
  · clear hs
    go_enter Try.func24, Try.ntmps24
    go_wp2_with fail
    go_region
    go_wp2_with fail
    go_region
    go_wp2_with fail
    refine bodyPost_ret (v := .tuple #[.agg #[.int .i64 0, .int .i64 0], .string ⟨#[]⟩, .int .i64 900]) (by simp [results, Try.results24, go_sem]) rfl ⟨rfl, ?_⟩
    exact ((Below.refl _ w).alloc (Nat.le_refl _) _).drew.drew
  · have h2 : s.size < k := by omega
    clear hs
    go_enter Try.func24, Try.ntmps24
    go_wp2_with fail
    go_region
    go_wp2_with fail
    go_region
    go_wp2_with fail
    refine bodyPost_ret (v := .tuple #[.agg #[.int .i64 0, .int .i64 0], .string ⟨#[]⟩, .int .i64 900]) (by simp [results, Try.results24, go_sem]) rfl ⟨rfl, ?_⟩
    exact ((Below.refl _ w).alloc (Nat.le_refl _) _).drew.drew
set_option maxHeartbeats 1600000 in
theorem cut_wrong (s : ByteArray) (k : Nat) (x y : UInt8) (w : World) (h : 4 ≤ s.size) (hm : s.size ≤ 9223372036854775807) (hk : (s[2]'(by omega)).toNat * 256 + (s[3]'(by omega)).toNat = k) (h1 : 4 ≤ k) (h2 : k ≤ s.size)
    (hx0 : s[0]'(by omega) = x) (hy0 : s[1]'(by omega) = y)
    (G : Hid (∀ W, Calls Try.prog 34 #[.agg #[.int .i64 (x.toNat : Int), .int .i64 (y.toNat : Int)]] W fun e w' => e = .returned (.bool false) ∧ Below W.heap.size W w')) :
    Calls Try.prog 24 #[.string s] w (CutPost 0 0 ⟨#[]⟩ 900 w) := by
  have hx := high_or (s[2]'(by omega)) (s[3]'(by omega))
  rw [hk] at hx
  have p0 : 0 < s.size := by omega
  have p1 : 1 < s.size := by omega
  have p2 : 2 < s.size := by omega
  have p3 : 3 < s.size := by omega
  have q0 : (0 : Int) < (s.size : Int) := by omega
  have q1 : (1 : Int) < (s.size : Int) := by omega
  have q2 : (2 : Int) < (s.size : Int) := by omega
  have q3 : (3 : Int) < (s.size : Int) := by omega
  have e1 : wrap64 (x.toNat : Int) = (x.toNat : Int) := wrap64_nat _ (by have := x.toNat_lt; omega)
  have e2 : wrap64 (y.toNat : Int) = (y.toNat : Int) := wrap64_nat _ (by have := y.toNat_lt; omega)
  have f1 : IntKind.i64.wrap (x.toNat : Int) = (x.toNat : Int) := i64_wrap _ (by have := x.toNat_lt; omega)
  have f2 : IntKind.i64.wrap (y.toNat : Int) = (y.toNat : Int) := i64_wrap _ (by have := y.toNat_lt; omega)
  have g1 : (4 : Int) ≤ (k : Int) := by omega
  have g2 : (k : Int) ≤ (s.size : Int) := by omega
  have g3 : (0 : Int) ≤ (k : Int) := by omega
  have X1 := Lib.hid (Box.new w [.int .i64 (x.toNat : Int), .int .i64 (y.toNat : Int)] 49).drew.drew
  have HB := Lib.hid ((Below.refl w.heap.size w).alloc (Nat.le_refl _) (.cells #[.int .i64 (x.toNat : Int), .int .i64 (y.toNat : Int)] 49)).drew.drew
  clear hk
  go_enter Try.func24, Try.ntmps24
  go_wp2_with fail
  go_region
  go_wp2_with fail
  go_region
  go_wp2_with fail
  refine (G.out _).mono ?_
  rintro e w4 ⟨rfl, hb4⟩
  have hz4 : w.heap.size < w4.heap.size := (by have := hb4.size; simp at this; omega)
  have fz : ∀ o, w4.frozen? ⟨w.heap.size, o, none⟩ = false := fun o => ((bcell hb4).2 _ _ (by simp)).trans (by simp [go_sem])
  have Y1 := X1.out.below hb4
  have m0 := Y1 0 _ rfl
  have m1 := Y1 1 _ rfl
  have HB4 := Lib.hid (bel2 HB.out hb4)
  clear Y1 hb4
  go_wp2_with fail
  refine bodyPost_ret (v := .tuple #[.agg #[.int .i64 0, .int .i64 0], .string ⟨#[]⟩, .int .i64 900]) (by simp [results, Try.results24, go_sem, m0, m1]) rfl ⟨rfl, ?_⟩
  repeat (first | (with_reducible exact HB4.out) | (refine Below.setCell ?_ ?_ _; rotate_left; exact Nat.le_refl _))
set_option maxHeartbeats 1600000 in
theorem cut_long (s : ByteArray) (k : Nat) (x y : UInt8) (w : World) (h : 4 ≤ s.size) (hm : s.size ≤ 9223372036854775807) (hk : (s[2]'(by omega)).toNat * 256 + (s[3]'(by omega)).toNat = k) (_ : 4 ≤ k) (h2 : k ≤ s.size) (h3 : 2048 < k)
    (hx0 : s[0]'(by omega) = x) (hy0 : s[1]'(by omega) = y)
    (G : Hid (∀ W, Calls Try.prog 34 #[.agg #[.int .i64 (x.toNat : Int), .int .i64 (y.toNat : Int)]] W fun e w' => e = .returned (.bool true) ∧ Below W.heap.size W w')) :
    Calls Try.prog 24 #[.string s] w (CutPost 0 0 ⟨#[]⟩ 901 w) := by
  have hx := high_or (s[2]'(by omega)) (s[3]'(by omega))
  rw [hk] at hx
  have p0 : 0 < s.size := by omega
  have p1 : 1 < s.size := by omega
  have p2 : 2 < s.size := by omega
  have p3 : 3 < s.size := by omega
  have q0 : (0 : Int) < (s.size : Int) := by omega
  have q1 : (1 : Int) < (s.size : Int) := by omega
  have q2 : (2 : Int) < (s.size : Int) := by omega
  have q3 : (3 : Int) < (s.size : Int) := by omega
  have e1 : wrap64 (x.toNat : Int) = (x.toNat : Int) := wrap64_nat _ (by have := x.toNat_lt; omega)
  have e2 : wrap64 (y.toNat : Int) = (y.toNat : Int) := wrap64_nat _ (by have := y.toNat_lt; omega)
  have f1 : IntKind.i64.wrap (x.toNat : Int) = (x.toNat : Int) := i64_wrap _ (by have := x.toNat_lt; omega)
  have f2 : IntKind.i64.wrap (y.toNat : Int) = (y.toNat : Int) := i64_wrap _ (by have := y.toNat_lt; omega)
  have g1 : (4 : Int) ≤ (k : Int) := by omega
  have g2 : (k : Int) ≤ (s.size : Int) := by omega
  have g3 : (0 : Int) ≤ (k : Int) := by omega
  have X1 := Lib.hid (Box.new w [.int .i64 (x.toNat : Int), .int .i64 (y.toNat : Int)] 49).drew.drew
  have HB := Lib.hid ((Below.refl w.heap.size w).alloc (Nat.le_refl _) (.cells #[.int .i64 (x.toNat : Int), .int .i64 (y.toNat : Int)] 49)).drew.drew
  clear hk
  go_enter Try.func24, Try.ntmps24
  go_wp2_with fail
  go_region
  go_wp2_with fail
  go_region
  go_wp2_with fail
  refine (G.out _).mono ?_
  rintro e w4 ⟨rfl, hb4⟩
  have hz4 : w.heap.size < w4.heap.size := (by have := hb4.size; simp at this; omega)
  have fz : ∀ o, w4.frozen? ⟨w.heap.size, o, none⟩ = false := fun o => ((bcell hb4).2 _ _ (by simp)).trans (by simp [go_sem])
  have Y1 := X1.out.below hb4
  have m0 := Y1 0 _ rfl
  have m1 := Y1 1 _ rfl
  have HB4 := Lib.hid (bel2 HB.out hb4)
  clear Y1 hb4
  go_wp2_with fail
  refine bodyPost_ret (v := .tuple #[.agg #[.int .i64 0, .int .i64 0], .string ⟨#[]⟩, .int .i64 901]) (by simp [results, Try.results24, go_sem, m0, m1]) rfl ⟨rfl, ?_⟩
  repeat (first | (with_reducible exact HB4.out) | (refine Below.setCell ?_ ?_ _; rotate_left; exact Nat.le_refl _))
set_option maxHeartbeats 1600000 in
theorem cut_good (s D : ByteArray) (k : Nat) (x y : UInt8) (w : World) (h : 4 ≤ s.size) (hm : s.size ≤ 9223372036854775807) (hk : (s[2]'(by omega)).toNat * 256 + (s[3]'(by omega)).toNat = k) (h1 : 4 ≤ k) (h2 : k ≤ s.size) (h3 : k ≤ 2048) (hD : s.extract 4 k = D)
    (hx0 : s[0]'(by omega) = x) (hy0 : s[1]'(by omega) = y)
    (G : Hid (∀ W, Calls Try.prog 34 #[.agg #[.int .i64 (x.toNat : Int), .int .i64 (y.toNat : Int)]] W fun e w' => e = .returned (.bool true) ∧ Below W.heap.size W w')) :
    Calls Try.prog 24 #[.string s] w (CutPost x.toNat y.toNat D 0 w) := by
  have hx := high_or (s[2]'(by omega)) (s[3]'(by omega))
  rw [hk] at hx
  have p0 : 0 < s.size := by omega
  have p1 : 1 < s.size := by omega
  have p2 : 2 < s.size := by omega
  have p3 : 3 < s.size := by omega
  have q0 : (0 : Int) < (s.size : Int) := by omega
  have q1 : (1 : Int) < (s.size : Int) := by omega
  have q2 : (2 : Int) < (s.size : Int) := by omega
  have q3 : (3 : Int) < (s.size : Int) := by omega
  have e1 : wrap64 (x.toNat : Int) = (x.toNat : Int) := wrap64_nat _ (by have := x.toNat_lt; omega)
  have e2 : wrap64 (y.toNat : Int) = (y.toNat : Int) := wrap64_nat _ (by have := y.toNat_lt; omega)
  have f1 : IntKind.i64.wrap (x.toNat : Int) = (x.toNat : Int) := i64_wrap _ (by have := x.toNat_lt; omega)
  have f2 : IntKind.i64.wrap (y.toNat : Int) = (y.toNat : Int) := i64_wrap _ (by have := y.toNat_lt; omega)
  have g1 : (4 : Int) ≤ (k : Int) := by omega
  have g2 : (k : Int) ≤ (s.size : Int) := by omega
  have g3 : (0 : Int) ≤ (k : Int) := by omega
  have X1 := Lib.hid (Box.new w [.int .i64 (x.toNat : Int), .int .i64 (y.toNat : Int)] 49).drew.drew
  have HB := Lib.hid ((Below.refl w.heap.size w).alloc (Nat.le_refl _) (.cells #[.int .i64 (x.toNat : Int), .int .i64 (y.toNat : Int)] 49)).drew.drew
  clear hk
  go_enter Try.func24, Try.ntmps24
  go_wp2_with fail
  go_region
  go_wp2_with fail
  go_region
  go_wp2_with fail
  refine (G.out _).mono ?_
  rintro e w4 ⟨rfl, hb4⟩
  have hz4 : w.heap.size < w4.heap.size := (by have := hb4.size; simp at this; omega)
  have fz : ∀ o, w4.frozen? ⟨w.heap.size, o, none⟩ = false := fun o => ((bcell hb4).2 _ _ (by simp)).trans (by simp [go_sem])
  have Y1 := X1.out.below hb4
  have m0 := Y1 0 _ rfl
  have m1 := Y1 1 _ rfl
  have HB4 := Lib.hid (bel2 HB.out hb4)
  clear Y1 hb4
  go_wp2_with fail
  go_region
  go_wp2_with fail
  refine bodyPost_ret (v := .tuple #[.agg #[.int .i64 (x.toNat : Int), .int .i64 (y.toNat : Int)], .string D, .int .i64 0]) (by simp [results, Try.results24, go_sem, m0, m1]) rfl ⟨rfl, ?_⟩
  repeat (first | (with_reducible exact HB4.out) | (refine Below.drew ?_) | (refine Below.setCell ?_ ?_ _; rotate_left; exact Nat.le_refl _))
end Go.Proofs.Ytmonoicdejallaa.Z
