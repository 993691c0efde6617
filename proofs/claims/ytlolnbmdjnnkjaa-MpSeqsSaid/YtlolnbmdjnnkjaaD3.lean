/-
  Contract of the program's Get of a fragment.
-/
import Derived.Test.YtlolnbmdjnnkjaaD1
import Derived.Test.YtlolnbmdjnnkjaaBox2
import Derived.Test.YtlolnbmdjnnkjaaClone
import Derived.Test.YtlolnbmdjnnkjaaText
import Derived.BigRegion
import Derived.Deep.RegionHeld
namespace Go.Proofs.Ytlolnbmdjnnkjaa.D
open Go.RowKit
/-- A fragment as a value. -/
abbrev fg (b e : Bool) (q : Int) (d : ByteArray) : Value := .agg #[.bool b, .bool e, .int .i64 q, .string d]
set_option maxHeartbeats 400000 in
theorem get_few (short : Bool) (zn : Nat) (B E M : Int) (s : ByteArray) (w : World) (h : s.size < zn)
    (HD : Hid (∀ W, Calls Try.prog 13 #[.bool short] W fun r w' => r = .returned (.agg #[.int .i64 zn, .int .u32 B, .int .u32 E, .int .u32 M]) ∧ Below W.heap.size W w')) :
    Calls Try.prog 9 #[.string s, .bool short] w fun r w' => r = .returned (.tuple #[fg false false 0 ⟨#[]⟩, .int .i64 800]) ∧ Below w.heap.size w w' := by
  have B0 := Lib.hid ((Below.refl w.heap.size w).alloc (Nat.le_refl _) (.cells #[.bool false, .bool false, .int .i64 0, .string ⟨#[]⟩] 23))
  have X0 := Lib.hid (Box.new w [.bool false, .bool false, .int .i64 0, .string ⟨#[]⟩] 23)
  go_enter Try.func9, Try.ntmps9
  go_wp2_with fail
  refine (HD.out _).mono ?_
  rintro r w1 ⟨rfl, hb1⟩
  have X1 := X0.out.below hb1
  have B1 := Lib.hid (bel2 B0.out hb1)
  have z1 := X1.lt
  have k0 := X1 0 _ rfl
  have k1 := X1 1 _ rfl
  have k2 := X1 2 _ rfl
  have k3 := X1 3 _ rfl
  have fz : ∀ o, w1.frozen? ⟨w.heap.size, o, none⟩ = false := fun o => (hb1.frozen (p := ⟨w.heap.size, o, none⟩) (by simp)).trans (new_frozen _ _ _ _ _ rfl)
  clear hb1 X1
  go_wp2_with fail
  refine bodyPost_ret (v := .tuple #[fg false false 0 ⟨#[]⟩, .int .i64 800]) (by simp [results, Try.results9, go_sem, z1, k0, k1, k2, k3]) rfl ⟨rfl, ?_⟩
  refine Below.alloc ?_ (by simp; exact Nat.le_of_lt z1) _
  repeat (first | (with_reducible exact B1.out) | (refine Below.setCell ?_ ?_ _; rotate_left; exact Nat.le_refl _))
theorem or_byte32 (n : Nat) (b : UInt8) (h : n < 16777216) : bits BinOp.or IntKind.u32 ((n : Int) * 256) (b.toNat : Int) = ((n * 256 + b.toNat : Nat) : Int) := by
  have hb := b.toNat_lt
  have h2 := u32_or_nat (n * 256) b.toNat (by omega) (by omega)
  rw [nat_join 8 (n * 256) b.toNat (by omega) (by omega)] at h2
  rw [← h2, Int.natCast_mul]
  rfl
/-- What a region that fills the result holds: three cells of the head, the result's own box, which may be written. -/
structure Rest (w : World) (g : Nat) (a : World) : Prop where
  lt : g < a.heap.size
  box : Box w.heap.size a [.bool false, .bool false, .int .i64 0, .string ⟨#[]⟩]
  fz : ∀ o, a.frozen? ⟨w.heap.size, o, none⟩ = false
  bel : Below w.heap.size w a
theorem rest_below {w a b : World} {g : Nat} {x y z : Value} (h : a.cell? ⟨g, 1, none⟩ = some x ∧ a.cell? ⟨g, 2, none⟩ = some y ∧ a.cell? ⟨g, 3, none⟩ = some z ∧ Rest w g a) (k : Below a.heap.size a b) :
    b.cell? ⟨g, 1, none⟩ = some x ∧ b.cell? ⟨g, 2, none⟩ = some y ∧ b.cell? ⟨g, 3, none⟩ = some z ∧ Rest w g b := by
  obtain ⟨h1, h2, h3, h4⟩ := h
  exact ⟨cell_below h1 k, cell_below h2 k, cell_below h3 k, Nat.lt_of_lt_of_le h4.lt k.size, h4.box.below k, fun o => (k.frozen (p := ⟨w.heap.size, o, none⟩) h4.box.lt).trans (h4.fz o), bel2 h4.bel k⟩
theorem rest_drew {w a : World} {g : Nat} {x y z : Value} (h : a.cell? ⟨g, 1, none⟩ = some x ∧ a.cell? ⟨g, 2, none⟩ = some y ∧ a.cell? ⟨g, 3, none⟩ = some z ∧ Rest w g a) :
    a.drew.cell? ⟨g, 1, none⟩ = some x ∧ a.drew.cell? ⟨g, 2, none⟩ = some y ∧ a.drew.cell? ⟨g, 3, none⟩ = some z ∧ Rest w g a.drew := ⟨h.1, h.2.1, h.2.2.1, h.2.2.2.lt, h.2.2.2.box, h.2.2.2.fz, h.2.2.2.bel.drew⟩
theorem three_below {a b : World} {g : Nat} {x y z : Value} (h : a.cell? ⟨g, 1, none⟩ = some x ∧ a.cell? ⟨g, 2, none⟩ = some y ∧ a.cell? ⟨g, 3, none⟩ = some z) (k : Below a.heap.size a b) :
    b.cell? ⟨g, 1, none⟩ = some x ∧ b.cell? ⟨g, 2, none⟩ = some y ∧ b.cell? ⟨g, 3, none⟩ = some z := ⟨cell_below h.1 k, cell_below h.2.1 k, cell_below h.2.2 k⟩
theorem three_drew {a : World} {g : Nat} {x y z : Value} (h : a.cell? ⟨g, 1, none⟩ = some x ∧ a.cell? ⟨g, 2, none⟩ = some y ∧ a.cell? ⟨g, 3, none⟩ = some z) :
    a.drew.cell? ⟨g, 1, none⟩ = some x ∧ a.drew.cell? ⟨g, 2, none⟩ = some y ∧ a.drew.cell? ⟨g, 3, none⟩ = some z := h
theorem three_set {a : World} {g : Nat} {x y z : Value} (h : a.cell? ⟨g, 1, none⟩ = some x ∧ a.cell? ⟨g, 2, none⟩ = some y ∧ a.cell? ⟨g, 3, none⟩ = some z) {p : Addr} (hne : p.block ≠ g) (u : Value) :
    (a.setCell p u).cell? ⟨g, 1, none⟩ = some x ∧ (a.setCell p u).cell? ⟨g, 2, none⟩ = some y ∧ (a.setCell p u).cell? ⟨g, 3, none⟩ = some z := by
  have e : ∀ j, (a.setCell p u).cell? ⟨g, j, none⟩ = a.cell? ⟨g, j, none⟩ := fun j => World.cell?_of_block (a := ⟨g, j, none⟩) (Below.heap_setCell a p u g (fun e => hne e.symm))
  rw [e, e, e]
  exact h
set_option maxRecDepth 100000 in
set_option maxHeartbeats 3200000 in
theorem get_walk (short : Bool) (zn N m : Nat) (B E M K x y z : Int) (T : ByteArray) (s : ByteArray) (l : List UInt8) (r1 r2 : Bool) (r3 r5 : Int) (r4 : ByteArray) (w : World) (hz : 1 ≤ zn ∧ zn ≤ 4) (h : zn ≤ s.size) (hl : l.length = s.size) (hb : ∀ k (h : k < s.size) (h2 : k < l.length), s[k] = l[k])
    (hN : Mph.val (l.take zn) = N) (hK : bits .or .u32 (bits .or .u32 B E) M = K) (hx : bits .andNot .u32 (N : Int) K = x) (hy : bits .and .u32 (N : Int) B = y) (hz2 : bits .and .u32 (N : Int) E = z) (hm : bits .and .u32 (N : Int) M = (m : Int)) (hm2 : m ≤ 4294967295)
    (hT : s.extract zn s.size = T)
    (q1 : (x != 0) = true → r1 = false ∧ r2 = false ∧ r3 = 0 ∧ r4 = ⟨#[]⟩ ∧ r5 = 800)
    (q2 : (x != 0) = false → 2048 < (T.size : Int) → r1 = false ∧ r2 = false ∧ r3 = 0 ∧ r4 = ⟨#[]⟩ ∧ r5 = 801)
    (q3 : (x != 0) = false → (T.size : Int) ≤ 2048 → r1 = (y != 0) ∧ r2 = (z != 0) ∧ r3 = (m : Int) ∧ r4 = T ∧ r5 = 0)
    (HD : Hid (∀ W, Calls Try.prog 13 #[.bool short] W fun r w' => r = .returned (.agg #[.int .i64 zn, .int .u32 B, .int .u32 E, .int .u32 M]) ∧ Below W.heap.size W w')) :
    Calls Try.prog 9 #[.string s, .bool short] w fun r w' => r = .returned (.tuple #[fg r1 r2 r3 r4, .int .i64 r5]) ∧ Below w.heap.size w w' := by
  have Q1 := Lib.hid q1
  have Q2 := Lib.hid q2
  have Q3 := Lib.hid q3
  have HBY := Lib.hid hb
  have HL := Lib.hid hl
  have HN := Lib.hid hN
  have LG := fun W => long_any T W
  obtain ⟨hz1, hz4⟩ := hz
  have n1 : (zn : Int) ≤ (s.size : Int) := by omega
  have n2 : (0 : Int) ≤ (zn : Int) := by omega
  have B0 := Lib.hid ((Below.refl w.heap.size w).alloc (Nat.le_refl _) (.cells #[.bool false, .bool false, .int .i64 0, .string ⟨#[]⟩] 23))
  have X0 := Lib.hid (Box.new w [.bool false, .bool false, .int .i64 0, .string ⟨#[]⟩] 23)
  clear q1 q2 q3 hb hl hN
  go_enter Try.func9, Try.ntmps9
  go_wp2_with fail
  refine (HD.out _).mono ?_
  rintro r w1 ⟨rfl, hb1⟩
  have X1 := X0.out.below hb1
  have B1 := Lib.hid (bel2 B0.out hb1)
  have z1 := X1.lt
  have XX1 := Lib.hid X1
  have F1 : Hid (∀ o, w1.frozen? ⟨w.heap.size, o, none⟩ = false) := Lib.hid fun o => (hb1.frozen (p := ⟨w.heap.size, o, none⟩) (by simp)).trans (new_frozen _ _ _ _ _ rfl)
  have Y1 := Box.new w1 [.int .i64 zn, .int .u32 B, .int .u32 E, .int .u32 M] 41
  have y0 := Y1 0 _ rfl
  have y1 := Y1 1 _ rfl
  have y2 := Y1 2 _ rfl
  have y3 := Y1 3 _ rfl
  clear hb1 X1
  go_wp2_with fail
  go_loop [7, 8, 20] (fun s7 _ s20 => ∃ k : Nat, k ≤ zn ∧ s20 = .int .i64 k ∧ s7 = .int .u32 (Mph.val (l.take k) : Nat)) (fun _ _ i => zn - (intOf i).toNat)
  case atStart => exact ⟨0, Nat.zero_le _, rfl, rfl⟩
  case round =>
    obtain ⟨k, hk, rfl, rfl⟩ := hrel
    by_cases hlt : k < zn
    · have hk2 : k < s.size := by omega
      have hk3 : (k : Int) < (s.size : Int) := by omega
      obtain ⟨c, hc⟩ : ∃ c, s[k] = c := ⟨_, rfl⟩
      have HS : Hid (Mph.val (l.take (k + 1)) = Mph.val (l.take k) * 256 + c.toNat) := Lib.hid (by
        have := HL.out
        rw [List.take_succ_eq_append_getElem (by omega), Mph.val_snoc, ← HBY.out k hk2 (by omega), hc])
      have hv : Mph.val (l.take k) < 16777216 := by
        have h1 := Mph.val_lt (l.take k)
        have h2 : 256 ^ (l.take k).length ≤ 256 ^ 3 := Nat.pow_le_pow_right (by omega) (by rw [List.length_take]; omega)
        omega
      generalize Mph.val (l.take k) = n at *
      have f3 := or_byte32 n c hv
      have f4 : (c.toNat : Int) % 4294967296 = (c.toNat : Int) := by have := c.toNat_lt; omega
      obtain ⟨n2, hn2⟩ : ∃ n2 : Nat, n2 = n * 256 + c.toNat := ⟨_, rfl⟩
      rw [← hn2] at f3
      have HN2 := Lib.hid hn2
      clear hn2
      go_wp2_with fail
      go_round
      case rel => exact ⟨k + 1, by omega, by go_num, by rw [HS.out, ← HN2.out]⟩
      case measure => simp [intOf]; omega
    · obtain rfl : zn = k := by omega
      rw [HN.out]
      have k0 := XX1.out 0 _ rfl
      have k1 := XX1.out 1 _ rfl
      have k2 := XX1.out 2 _ rfl
      have k3 := XX1.out 3 _ rfl
      have fz := F1.out
      cases hq : (x != 0)
      · have LGH := Lib.hid LG
        by_cases hq2 : 2048 < (T.size : Int)
        · have hr := Lib.hid (Q2.out hq hq2)
          have hd : decide (2048 < (T.size : Int)) = true := decide_eq_true hq2
          rw [hd] at LGH
          clear hd hq2 LG
          go_wp2_with (go_at_call 14; refine (LGH.out _).mono ?_; rintro r w2 ⟨rfl, rfl⟩)
          obtain ⟨rfl, rfl, rfl, rfl, rfl⟩ := hr.out
          refine bodyPost_ret (v := .tuple #[fg false false 0 ⟨#[]⟩, .int .i64 801]) (by simp [results, Try.results9, go_sem, z1, k0, k1, k2, k3]) rfl ⟨rfl, ?_⟩
          refine Below.alloc ?_ (by simp; exact Nat.le_of_lt z1) _
          repeat (first | (with_reducible exact B1.out) | (refine Below.setCell ?_ ?_ _; rotate_left; exact Nat.le_refl _))
        · have hr := Lib.hid (Q3.out hq (by omega))
          have hd : decide (2048 < (T.size : Int)) = false := decide_eq_false hq2
          rw [hd] at LGH
          have HC := Lib.hid fun w => clone_any T w (by omega)
          clear hd hq2 LG
          go_wp2_with (go_at_call 14; refine (LGH.out _).mono ?_; rintro r w2 ⟨rfl, rfl⟩)
          have K2 := rest_below (w := w) (a := w1.alloc (.cells #[.int .i64 zn, .int .u32 B, .int .u32 E, .int .u32 M] 41)) ⟨y1, y2, y3, by simp, XX1.out.alloc _, fun o => (alloc_frozen _ _ _ _ z1).trans (fz o), B1.out.alloc B1.out.size _⟩ (Below.refl _ _)
          have K2 := Lib.hid K2
          clear y0 y1 y2 y3 k0 k1 k2 k3 fz
          have T3 := Lib.hid (three_drew ⟨K2.out.1, K2.out.2.1, K2.out.2.2.1⟩)
          go_region_held (fun a => a.cell? ⟨w1.heap.size, 1, none⟩ = some (.int .u32 B) ∧ a.cell? ⟨w1.heap.size, 2, none⟩ = some (.int .u32 E) ∧ a.cell? ⟨w1.heap.size, 3, none⟩ = some (.int .u32 M)) (first | assumption | exact T3.out | exact three_below (by assumption) hb4 | exact three_set (three_set (three_set (three_set (by assumption) (Nat.ne_of_lt z1) _) (Nat.ne_of_lt z1) _) (Nat.ne_of_lt z1) _) (Nat.ne_of_lt z1) _)
            (first | (go_at_call 18; refine (HC.out _).mono ?_; rintro r w4 ⟨rfl, hb4⟩; have K4 := rest_below (rest_drew K2.out) hb4; have m0 := K4.2.2.2.box 0 _ rfl; have m1 := K4.2.2.2.box 1 _ rfl; have m2 := K4.2.2.2.box 2 _ rfl; have m3 := K4.2.2.2.box 3 _ rfl; have fz := K4.2.2.2.fz; have hz4 := K4.2.2.2.lt; have hz5 := K4.2.2.2.box.lt))
          rename_i hH
          have BB := Lib.hid K4.2.2.2.bel
          have e8 : IntKind.i64.wrap (m : Int) = (m : Int) := i64_wrap _ (by omega)
          obtain ⟨rfl, rfl, rfl, rfl, rfl⟩ := hr.out
          go_wp2_with fail
          refine bodyPost_ret (v := .tuple #[fg (y != 0) (z != 0) m r4, .int .i64 0]) (by simp [results, Try.results9, go_sem, m0, m1, m2, m3]) rfl ⟨rfl, ?_⟩
          repeat (first | (with_reducible exact BB.out) | (refine Below.setCell ?_ ?_ _; rotate_left; exact Nat.le_refl _))
      · have hr := Lib.hid (Q1.out hq)
        clear LG
        go_wp2_with fail
        obtain ⟨rfl, rfl, rfl, rfl, rfl⟩ := hr.out
        refine bodyPost_ret (v := .tuple #[fg false false 0 ⟨#[]⟩, .int .i64 800]) (by simp [results, Try.results9, go_sem, z1, k0, k1, k2, k3]) rfl ⟨rfl, ?_⟩
        refine Below.alloc ?_ (by simp; exact Nat.le_of_lt z1) _
        repeat (first | (with_reducible exact B1.out) | (refine Below.setCell ?_ ?_ _; rotate_left; exact Nat.le_refl _))
end Go.Proofs.Ytlolnbmdjnnkjaa.D
