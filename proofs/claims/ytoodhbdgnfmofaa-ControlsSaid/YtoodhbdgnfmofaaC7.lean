/-
  Contract of the document's own Uncontrol.
-/
import Derived.Test.YtoodhbdgnfmofaaC6
import Derived.Test.YtoodhbdgnfmofaaO6
import Derived.Test.YtoodhbdgnfmofaaC4
namespace Go.Proofs.Ytoodhbdgnfmofaa.C
open Go.RowKit
set_option maxHeartbeats 400000 in
theorem un_short_walk (s : ByteArray) (w : World) (h : s.size < 4) :
    Calls Try.prog 12 #[.string s] w fun e w' => e = .returned (.tuple #[.agg #[.int .i64 0, .int .i64 0, .slice none 0 0, .string ⟨#[]⟩], .int .i64 500]) ∧ Below w.heap.size w w' := by
  go_enter Try.func12, Try.ntmps12
  go_wp2_with fail
  refine bodyPost_ret (v := .tuple #[.agg #[.int .i64 0, .int .i64 0, .slice none 0 0, .string ⟨#[]⟩], .int .i64 500]) (by simp [results, Try.results12, go_sem]) rfl ⟨rfl, ?_⟩
  exact (Below.refl _ w).alloc (Nat.le_refl _) _
set_option maxHeartbeats 800000 in
theorem un_length_walk (s : ByteArray) (k : Nat) (w : World) (h : 4 ≤ s.size) (hm : s.size ≤ 9223372036854775807) (hk : (s[2]'(by omega)).toNat * 256 + (s[3]'(by omega)).toNat = k) (hs : k < 4 ∨ s.size < k) :
    Calls Try.prog 12 #[.string s] w fun e w' => e = .returned (.tuple #[.agg #[.int .i64 0, .int .i64 0, .slice none 0 0, .string ⟨#[]⟩], .int .i64 501]) ∧ Below w.heap.size w w' := by
  have hx := high_plus (s[2]'(by omega)) (s[3]'(by omega))
  rw [hk] at hx
  have p2 : 2 < s.size := by omega
  have p3 : 3 < s.size := by omega
  have q2 : (2 : Int) < (s.size : Int) := by omega
  have q3 : (3 : Int) < (s.size : Int) := by omega
  clear hk
  by_cases h1 : k < 4
  · clear hs
    go_enter Try.func12, Try.ntmps12
    go_wp2_with fail
    go_region
    go_wp2_with fail
    refine bodyPost_ret (v := .tuple #[.agg #[.int .i64 0, .int .i64 0, .slice none 0 0, .string ⟨#[]⟩], .int .i64 501]) (by simp [results, Try.results12, go_sem]) rfl ⟨rfl, ?_⟩
    exact ((Below.refl _ w).alloc (Nat.le_refl _) _).drew
  · have h2 : s.size < k := by omega
    clear hs
    go_enter Try.func12, Try.ntmps12
    go_wp2_with fail
    go_region
    go_wp2_with fail
    refine bodyPost_ret (v := .tuple #[.agg #[.int .i64 0, .int .i64 0, .slice none 0 0, .string ⟨#[]⟩], .int .i64 501]) (by simp [results, Try.results12, go_sem]) rfl ⟨rfl, ?_⟩
    exact ((Below.refl _ w).alloc (Nat.le_refl _) _).drew
set_option maxHeartbeats 800000 in
theorem un_long_walk (s : ByteArray) (k : Nat) (w : World) (h : 4 ≤ s.size) (hm : s.size ≤ 9223372036854775807) (hk : (s[2]'(by omega)).toNat * 256 + (s[3]'(by omega)).toNat = k) (h2 : k ≤ s.size) (h3 : 2048 < k) :
    Calls Try.prog 12 #[.string s] w fun e w' => e = .returned (.tuple #[.agg #[.int .i64 0, .int .i64 0, .slice none 0 0, .string ⟨#[]⟩], .int .i64 503]) ∧ Below w.heap.size w w' := by
  have hx := high_plus (s[2]'(by omega)) (s[3]'(by omega))
  rw [hk] at hx
  have p2 : 2 < s.size := by omega
  have p3 : 3 < s.size := by omega
  have q2 : (2 : Int) < (s.size : Int) := by omega
  have q3 : (3 : Int) < (s.size : Int) := by omega
  clear hk
  go_enter Try.func12, Try.ntmps12
  go_wp2_with fail
  go_region
  go_wp2_with fail
  refine bodyPost_ret (v := .tuple #[.agg #[.int .i64 0, .int .i64 0, .slice none 0 0, .string ⟨#[]⟩], .int .i64 503]) (by simp [results, Try.results12, go_sem]) rfl ⟨rfl, ?_⟩
  exact ((Below.refl _ w).alloc (Nat.le_refl _) _).drew
set_option maxHeartbeats 1600000 in
theorem un_data0 (s D : ByteArray) (x y : UInt8) (k : Nat) (w : World) (h : 4 ≤ s.size) (hm : s.size ≤ 9223372036854775807) (hk : (s[2]'(by omega)).toNat * 256 + (s[3]'(by omega)).toNat = k) (h1 : 4 ≤ k) (h2 : k ≤ s.size) (h3 : k ≤ 2048)
    (hx0 : s[0]'(by omega) = x) (hy0 : s[1]'(by omega) = y) (hD : s.extract 4 k = D) (hc : x.toNat < 1) :
    Calls Try.prog 12 #[.string s] w fun e w' => e = .returned (.tuple #[.agg #[.int .i64 (x.toNat : Int), .int .i64 (y.toNat : Int), .slice none 0 0, .string D], .int .i64 0]) ∧ Below w.heap.size w w' := by
  have hx := high_plus (s[2]'(by omega)) (s[3]'(by omega))
  rw [hk] at hx
  have p0 : 0 < s.size := by omega
  have p1 : 1 < s.size := by omega
  have p2 : 2 < s.size := by omega
  have p3 : 3 < s.size := by omega
  have q0 : (0 : Int) < (s.size : Int) := by omega
  have q1 : (1 : Int) < (s.size : Int) := by omega
  have q2 : (2 : Int) < (s.size : Int) := by omega
  have q3 : (3 : Int) < (s.size : Int) := by omega
  have e1 : wrap64 (x.toNat : Int) = (x.toNat : Int) := wrap64_nat _ (by have := x.toNat_lt; omega)
  have e2 : wrap64 (y.toNat : Int) = (y.toNat : Int) := wrap64_nat _ (by have := y.toNat_lt; omega)
  have g1 : (4 : Int) ≤ (k : Int) := by omega
  have g2 : (k : Int) ≤ (s.size : Int) := by omega
  have g3 : (0 : Int) ≤ (k : Int) := by omega
  clear hk
  go_enter Try.func12, Try.ntmps12
  go_wp2_with fail
  go_region
  go_wp2_with fail
  go_region
  go_wp2_with fail
  refine bodyPost_ret (v := .tuple #[.agg #[.int .i64 (x.toNat : Int), .int .i64 (y.toNat : Int), .slice none 0 0, .string D], .int .i64 0]) (by simp [results, Try.results12, go_sem]) rfl ⟨rfl, ?_⟩
  exact (((Below.refl _ w).alloc (Nat.le_refl _) _).alloc (by simp) _).drew.drew
set_option maxHeartbeats 1600000 in
theorem un_data5 (s D : ByteArray) (x y : UInt8) (k : Nat) (w : World) (h : 4 ≤ s.size) (hm : s.size ≤ 9223372036854775807) (hk : (s[2]'(by omega)).toNat * 256 + (s[3]'(by omega)).toNat = k) (h1 : 4 ≤ k) (h2 : k ≤ s.size) (h3 : k ≤ 2048)
    (hx0 : s[0]'(by omega) = x) (hy0 : s[1]'(by omega) = y) (hD : s.extract 4 k = D) (hc : 4 < x.toNat) :
    Calls Try.prog 12 #[.string s] w fun e w' => e = .returned (.tuple #[.agg #[.int .i64 (x.toNat : Int), .int .i64 (y.toNat : Int), .slice none 0 0, .string D], .int .i64 0]) ∧ Below w.heap.size w w' := by
  have hx := high_plus (s[2]'(by omega)) (s[3]'(by omega))
  rw [hk] at hx
  have p0 : 0 < s.size := by omega
  have p1 : 1 < s.size := by omega
  have p2 : 2 < s.size := by omega
  have p3 : 3 < s.size := by omega
  have q0 : (0 : Int) < (s.size : Int) := by omega
  have q1 : (1 : Int) < (s.size : Int) := by omega
  have q2 : (2 : Int) < (s.size : Int) := by omega
  have q3 : (3 : Int) < (s.size : Int) := by omega
  have e1 : wrap64 (x.toNat : Int) = (x.toNat : Int) := wrap64_nat _ (by have := x.toNat_lt; omega)
  have e2 : wrap64 (y.toNat : Int) = (y.toNat : Int) := wrap64_nat _ (by have := y.toNat_lt; omega)
  have g1 : (4 : Int) ≤ (k : Int) := by omega
  have g2 : (k : Int) ≤ (s.size : Int) := by omega
  have g3 : (0 : Int) ≤ (k : Int) := by omega
  clear hk
  have hc2 : 1 ≤ x.toNat := by omega
  go_enter Try.func12, Try.ntmps12
  go_wp2_with fail
  go_region
  go_wp2_with fail
  go_region
  go_wp2_with fail
  refine bodyPost_ret (v := .tuple #[.agg #[.int .i64 (x.toNat : Int), .int .i64 (y.toNat : Int), .slice none 0 0, .string D], .int .i64 0]) (by simp [results, Try.results12, go_sem]) rfl ⟨rfl, ?_⟩
  exact (((Below.refl _ w).alloc (Nat.le_refl _) _).alloc (by simp) _).drew.drew
set_option maxHeartbeats 1600000 in
theorem un_bad (s D : ByteArray) (x y : UInt8) (k : Nat) (q : Int) (os : List Opt.Op) (w : World) (h : 4 ≤ s.size) (hm : s.size ≤ 9223372036854775807) (hk : (s[2]'(by omega)).toNat * 256 + (s[3]'(by omega)).toNat = k) (h1 : 4 ≤ k) (h2 : k ≤ s.size) (h3 : k ≤ 2048)
    (hx0 : s[0]'(by omega) = x) (hy0 : s[1]'(by omega) = y) (hD : s.extract 4 k = D) (c1 : 1 ≤ x.toNat) (c2 : x.toNat ≤ 4) (hq : q ≠ 0)
    (G : Hid (∀ W, Calls Try.prog 25 #[.string D] W fun e w' => ∃ v, e = .returned (.tuple #[v, .int .i64 q]) ∧ OwnsO W w' v os)) :
    Calls Try.prog 12 #[.string s] w fun e w' => e = .returned (.tuple #[.agg #[.int .i64 0, .int .i64 0, .slice none 0 0, .string ⟨#[]⟩], .int .i64 502]) ∧ Below w.heap.size w w' := by
  have hq1 : (q != 0) = true := by simpa using hq
  clear hq
  have hx := high_plus (s[2]'(by omega)) (s[3]'(by omega))
  rw [hk] at hx
  have p0 : 0 < s.size := by omega
  have p1 : 1 < s.size := by omega
  have p2 : 2 < s.size := by omega
  have p3 : 3 < s.size := by omega
  have q0 : (0 : Int) < (s.size : Int) := by omega
  have q1 : (1 : Int) < (s.size : Int) := by omega
  have q2 : (2 : Int) < (s.size : Int) := by omega
  have q3 : (3 : Int) < (s.size : Int) := by omega
  have e1 : wrap64 (x.toNat : Int) = (x.toNat : Int) := wrap64_nat _ (by have := x.toNat_lt; omega)
  have e2 : wrap64 (y.toNat : Int) = (y.toNat : Int) := wrap64_nat _ (by have := y.toNat_lt; omega)
  have g1 : (4 : Int) ≤ (k : Int) := by omega
  have g2 : (k : Int) ≤ (s.size : Int) := by omega
  have g3 : (0 : Int) ≤ (k : Int) := by omega
  clear hk
  go_enter Try.func12, Try.ntmps12
  go_wp2_with fail
  go_region
  go_wp2_with fail
  go_region
  go_wp2_with fail
  refine (G.out _).mono ?_
  rintro e w4 ⟨v, rfl, ho⟩
  obtain ⟨p, cap, rfl⟩ := ho.form2
  have hb4 := ho.2
  have hz4 : w.heap.size + 1 < w4.heap.size := (by have := hb4.size; simp at this; omega)
  have hz5 : w.heap.size < w4.heap.size := by omega
  obtain ⟨hc4, hf4⟩ := bcell hb4
  have m0 : w4.cell? ⟨w.heap.size, 0, none⟩ = some (.int .i64 0) := (hc4 _ _ (by simp; try omega)).trans (by simp [go_sem])
  have m1 : w4.cell? ⟨w.heap.size, 1, none⟩ = some (.int .i64 0) := (hc4 _ _ (by simp; try omega)).trans (by simp [go_sem])
  have m2 : w4.cell? ⟨w.heap.size, 2, none⟩ = some (.slice none 0 0) := (hc4 _ _ (by simp; try omega)).trans (by simp [go_sem])
  have m3 : w4.cell? ⟨w.heap.size, 3, none⟩ = some (.string ⟨#[]⟩) := (hc4 _ _ (by simp; try omega)).trans (by simp [go_sem])
  have fz : ∀ o, w4.frozen? ⟨w.heap.size, o, none⟩ = false := fun o => (hf4 _ _ (by simp; try omega)).trans (by simp [go_sem])
  have fz2 : ∀ o, w4.frozen? ⟨w.heap.size + 1, o, none⟩ = false := fun o => (hf4 _ _ (by simp; try omega)).trans (by simp [go_sem])
  have HB := Lib.hid ((((Below.refl _ w).alloc (Nat.le_refl _) _).alloc (by simp) _).drew.drew.trans (hb4.mono (by simp; omega)))
  clear hc4 hf4 hb4 ho
  go_wp2_with fail
  refine bodyPost_ret (v := .tuple #[.agg #[.int .i64 0, .int .i64 0, .slice none 0 0, .string ⟨#[]⟩], .int .i64 502]) (by simp [results, Try.results12, go_sem, m0, m1, m2, m3]) rfl ⟨rfl, ?_⟩
  repeat (first | (with_reducible exact HB.out) | (refine Below.setCell ?_ ?_ _; rotate_left; (first | exact Nat.le_refl _ | exact Nat.le_succ _)))
set_option maxHeartbeats 1600000 in
theorem un_opts (s D : ByteArray) (x y : UInt8) (k : Nat) (os : List Opt.Op) (w : World) (h : 4 ≤ s.size) (hm : s.size ≤ 9223372036854775807) (hk : (s[2]'(by omega)).toNat * 256 + (s[3]'(by omega)).toNat = k) (h1 : 4 ≤ k) (h2 : k ≤ s.size) (h3 : k ≤ 2048)
    (hx0 : s[0]'(by omega) = x) (hy0 : s[1]'(by omega) = y) (hD : s.extract 4 k = D) (c1 : 1 ≤ x.toNat) (c2 : x.toNat ≤ 4)
    (G : Hid (∀ W, Calls Try.prog 25 #[.string D] W fun e w' => ∃ v, e = .returned (.tuple #[v, .int .i64 0]) ∧ OwnsO W w' v os)) :
    Calls Try.prog 12 #[.string s] w fun e w' => ∃ v, e = .returned (.tuple #[.agg #[.int .i64 (x.toNat : Int), .int .i64 (y.toNat : Int), v, .string ⟨#[]⟩], .int .i64 0]) ∧ OwnsO w w' v os := by
  have hx := high_plus (s[2]'(by omega)) (s[3]'(by omega))
  rw [hk] at hx
  have p0 : 0 < s.size := by omega
  have p1 : 1 < s.size := by omega
  have p2 : 2 < s.size := by omega
  have p3 : 3 < s.size := by omega
  have q0 : (0 : Int) < (s.size : Int) := by omega
  have q1 : (1 : Int) < (s.size : Int) := by omega
  have q2 : (2 : Int) < (s.size : Int) := by omega
  have q3 : (3 : Int) < (s.size : Int) := by omega
  have e1 : wrap64 (x.toNat : Int) = (x.toNat : Int) := wrap64_nat _ (by have := x.toNat_lt; omega)
  have e2 : wrap64 (y.toNat : Int) = (y.toNat : Int) := wrap64_nat _ (by have := y.toNat_lt; omega)
  have g1 : (4 : Int) ≤ (k : Int) := by omega
  have g2 : (k : Int) ≤ (s.size : Int) := by omega
  have g3 : (0 : Int) ≤ (k : Int) := by omega
  clear hk
  go_enter Try.func12, Try.ntmps12
  go_wp2_with fail
  go_region
  go_wp2_with fail
  go_region
  go_wp2_with fail
  refine (G.out _).mono ?_
  rintro e w4 ⟨v, rfl, ho⟩
  obtain ⟨p, cap, rfl⟩ := ho.form2
  have hb4 := ho.2
  have hz4 : w.heap.size + 1 < w4.heap.size := (by have := hb4.size; simp at this; omega)
  have hz5 : w.heap.size < w4.heap.size := by omega
  obtain ⟨hc4, hf4⟩ := bcell hb4
  have m0 : w4.cell? ⟨w.heap.size, 0, none⟩ = some (.int .i64 0) := (hc4 _ _ (by simp; try omega)).trans (by simp [go_sem])
  have m1 : w4.cell? ⟨w.heap.size, 1, none⟩ = some (.int .i64 0) := (hc4 _ _ (by simp; try omega)).trans (by simp [go_sem])
  have m2 : w4.cell? ⟨w.heap.size, 2, none⟩ = some (.slice none 0 0) := (hc4 _ _ (by simp; try omega)).trans (by simp [go_sem])
  have m3 : w4.cell? ⟨w.heap.size, 3, none⟩ = some (.string ⟨#[]⟩) := (hc4 _ _ (by simp; try omega)).trans (by simp [go_sem])
  have k0 : w4.cell? ⟨w.heap.size + 1, 0, none⟩ = some (.int .i64 (x.toNat : Int)) := (hc4 _ _ (by simp; try omega)).trans (by simp [go_sem])
  have k1 : w4.cell? ⟨w.heap.size + 1, 1, none⟩ = some (.int .i64 (y.toNat : Int)) := (hc4 _ _ (by simp; try omega)).trans (by simp [go_sem])
  have k2 : w4.cell? ⟨w.heap.size + 1, 2, none⟩ = some (.slice none 0 0) := (hc4 _ _ (by simp; try omega)).trans (by simp [go_sem])
  have k3 : w4.cell? ⟨w.heap.size + 1, 3, none⟩ = some (.string ⟨#[]⟩) := (hc4 _ _ (by simp; try omega)).trans (by simp [go_sem])
  have fz : ∀ o, w4.frozen? ⟨w.heap.size, o, none⟩ = false := fun o => (hf4 _ _ (by simp; try omega)).trans (by simp [go_sem])
  have fz2 : ∀ o, w4.frozen? ⟨w.heap.size + 1, o, none⟩ = false := fun o => (hf4 _ _ (by simp; try omega)).trans (by simp [go_sem])
  have A0 := Lib.hid (ho.above (b := w.heap.size) (by simp; omega))
  have A1 := Lib.hid (ho.above (b := w.heap.size + 1) (by simp))
  have HO := Lib.hid (ho.base (w := w) (((Below.refl _ w).alloc (Nat.le_refl _) _).alloc (by simp) _).drew.drew)
  clear hc4 hf4 hb4 ho
  go_wp2_with fail
  refine bodyPost_ret (v := .tuple #[.agg #[.int .i64 (x.toNat : Int), .int .i64 (y.toNat : Int), .slice p os.length cap, .string ⟨#[]⟩], .int .i64 0]) (by simp [results, Try.results12, go_sem, m0, m1, m2, m3]) rfl ⟨_, rfl, ?_⟩
  repeat (first | (with_reducible exact HO.out) | (refine OwnsO.setCell ?_ ?_ ?_ _; rotate_left; (first | exact Nat.le_refl _ | exact Nat.le_succ _); (first | exact A0.out | exact A1.out)))
/-- The contract of the document's own Uncontrol. -/
theorem uncontrol_any (l : List UInt8) (w : World) (hm : l.length ≤ 9223372036854775807) : Calls Try.prog 12 #[.string ⟨l.toArray⟩] w (PkPost (Ctl.get l) w) := by
  have hs := sz l
  by_cases h : l.length < 4
  · rw [Ctl.get_short l h]
    refine (un_short_walk ⟨l.toArray⟩ w (by rw [hs]; exact h)).mono ?_
    rintro e w' ⟨rfl, hb⟩
    exact ⟨_, rfl, World.ownsRow_nil _ _ _ _, hb⟩
  · have h4 : 4 ≤ l.length := by omega
    by_cases h1 : Ctl.size l h4 < 4 ∨ l.length < Ctl.size l h4
    · rw [Ctl.get_length l h4 h1]
      refine (un_length_walk ⟨l.toArray⟩ (Ctl.size l h4) w (by rw [hs]; exact h4) (by rw [hs]; exact hm) rfl (by rw [hs]; exact h1)).mono ?_
      rintro e w' ⟨rfl, hb⟩
      exact ⟨_, rfl, World.ownsRow_nil _ _ _ _, hb⟩
    · by_cases h2 : 2048 < Ctl.size l h4
      · rw [Ctl.get_long l h4 (by omega) (by omega) h2]
        refine (un_long_walk ⟨l.toArray⟩ (Ctl.size l h4) w (by rw [hs]; exact h4) (by rw [hs]; exact hm) rfl (by rw [hs]; omega) h2).mono ?_
        rintro e w' ⟨rfl, hb⟩
        exact ⟨_, rfl, World.ownsRow_nil _ _ _ _, hb⟩
      · rw [Ctl.get_held l h4 (by omega) (by omega) (by omega)]
        obtain ⟨D, hD⟩ : ∃ D, D = (l.take (Ctl.size l h4)).drop 4 := ⟨_, rfl⟩
        have hDl : D.length ≤ 2048 := by rw [hD, List.length_drop, List.length_take]; omega
        have hcut : (ByteArray.mk l.toArray).extract 4 (Ctl.size l h4) = ⟨D.toArray⟩ := by rw [hD]; exact O.cut_list l _ _
        rw [← hD]
        have g4 : 4 ≤ (ByteArray.mk l.toArray).size := by rw [hs]; exact h4
        have gm : (ByteArray.mk l.toArray).size ≤ 9223372036854775807 := by rw [hs]; exact hm
        have g2 : Ctl.size l h4 ≤ (ByteArray.mk l.toArray).size := by rw [hs]; omega
        cases hc : Ctl.conf (((l[0]'(by omega)).toNat : Nat) : Int)
        · rw [Ctl.held_data _ _ _ hc]
          have hco := conf_out _ hc
          by_cases hx : (l[0]'(by omega)).toNat < 1
          · refine (un_data0 ⟨l.toArray⟩ ⟨D.toArray⟩ (l[0]'(by omega)) (l[1]'(by omega)) (Ctl.size l h4) w g4 gm rfl (by omega) g2 (by omega) rfl rfl hcut hx).mono ?_
            rintro e w' ⟨rfl, hb⟩
            exact ⟨_, rfl, World.ownsRow_nil _ _ _ _, hb⟩
          · refine (un_data5 ⟨l.toArray⟩ ⟨D.toArray⟩ (l[0]'(by omega)) (l[1]'(by omega)) (Ctl.size l h4) w g4 gm rfl (by omega) g2 (by omega) rfl rfl hcut (by omega)).mono ?_
            rintro e w' ⟨rfl, hb⟩
            exact ⟨_, rfl, World.ownsRow_nil _ _ _ _, hb⟩
        · obtain ⟨c1, c2⟩ := conf_in _ hc
          have G := fun W => O.runopts_any D W (by omega)
          by_cases hg : (Opt.get D).2 = 0
          · rw [Ctl.held_conf _ _ _ hc hg]
            unfold O.GetPost at G
            rw [hg] at G
            exact un_opts ⟨l.toArray⟩ ⟨D.toArray⟩ (l[0]'(by omega)) (l[1]'(by omega)) (Ctl.size l h4) _ w g4 gm rfl (by omega) g2 (by omega) rfl rfl hcut (by omega) (by omega) (Lib.hid G)
          · rw [Ctl.held_bad _ _ _ hc hg]
            refine (un_bad ⟨l.toArray⟩ ⟨D.toArray⟩ (l[0]'(by omega)) (l[1]'(by omega)) (Ctl.size l h4) _ _ w g4 gm rfl (by omega) g2 (by omega) rfl rfl hcut (by omega) (by omega) hg (Lib.hid G)).mono ?_
            rintro e w' ⟨rfl, hb⟩
            exact ⟨_, rfl, World.ownsRow_nil _ _ _ _, hb⟩
end Go.Proofs.Ytoodhbdgnfmofaa.C
