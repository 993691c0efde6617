/-
  Contract of the program's Put of a message.
-/
import Derived.Test.YtaagfmnpeimakaaDoorH3
import Derived.BigRegion
namespace Go.Proofs.YtaagfmnpeimakaaDoor.H
open Go.RowKit
theorem four_cells (c i : Int) (n : Nat) (hc : 0 ≤ c ∧ c ≤ 255) (hi : 0 ≤ i ∧ i ≤ 255) (hn : n < 65536) : (#[Value.int .u8 c, .int .u8 i, .int .u8 ((n : Int) / 256), .int .u8 ((n : Int) % 256)] : Array Value) = (Lib.byteCells (Chp.head c i n)).toArray := by
  have h1 : (UInt8.ofNat (n / 256)).toNat = n / 256 := by simp; omega
  have h2 : ((UInt8.ofNat c.toNat).toNat : Int) = c := by simp; omega
  have h3 : ((UInt8.ofNat i.toNat).toNat : Int) = i := by simp; omega
  simp only [Chp.head, Lib.byteCells, List.map_cons, List.map_nil, h1, h2, h3]
  simp
theorem one_cell (n : Nat) (h : n ≤ 255) : (#[Value.int .u8 (n : Int)] : Array Value) = (Lib.byteCells [UInt8.ofNat n]).toArray := by
  have h1 : (UInt8.ofNat n).toNat = n := by simp; omega
  simp only [Lib.byteCells, List.map_cons, List.map_nil, h1]
set_option maxHeartbeats 400000 in
theorem put_bad (c i k : Int) (v n : ByteArray) (w : World) (hq : (k != 0) = true)
    (J : Hid (∀ W, Calls Tryd.prog 42 #[.agg #[.int .i64 c, .int .i64 i, .string v, .string n]] W fun e w' => e = .returned (.int .i64 k) ∧ Below W.heap.size W w')) :
    Calls Tryd.prog 35 #[.agg #[.int .i64 c, .int .i64 i, .string v, .string n]] w fun e w' => e = .returned (.tuple #[.string ⟨#[]⟩, .int .i64 k]) ∧ Below w.heap.size w w' := by
  have HB := Lib.hid ((Below.refl w.heap.size w).alloc (Nat.le_refl _) (.cells #[.int .i64 c, .int .i64 i, .string v, .string n] 33))
  go_enter Tryd.func35, Tryd.ntmps35
  go_wp2_with fail
  refine (J.out _).mono ?_
  rintro e w1 ⟨rfl, hb1⟩
  have B1 := Lib.hid (bel2 HB.out hb1)
  clear hb1
  go_wp2_with fail
  go_ret2
  exact ⟨rfl, B1.out⟩
set_option maxHeartbeats 800000 in
theorem put_text (c i : Int) (v n U : List UInt8) (w : World) (hc : 0 ≤ c ∧ c ≤ 255) (hi : 0 ≤ i ∧ i ≤ 255) (hn : n.length ≤ 509)
    (J : Hid (∀ W, Calls Tryd.prog 42 #[.agg #[.int .i64 c, .int .i64 i, .string ⟨v.toArray⟩, .string ⟨n.toArray⟩]] W fun e w' => e = .returned (.int .i64 0) ∧ Below W.heap.size W w'))
    (V : Hid (∀ W, Calls Tryd.prog 43 #[.int .i64 c] W fun e w' => e = .returned (.bool false) ∧ W = w'))
    (r1 : Sums (Chp.head c i (n.length + 4)) n U) :
    Calls Tryd.prog 35 #[.agg #[.int .i64 c, .int .i64 i, .string ⟨v.toArray⟩, .string ⟨n.toArray⟩]] w fun e w' => e = .returned (.tuple #[.string ⟨U.toArray⟩, .int .i64 0]) ∧ Below w.heap.size w w' := by
  unfold Sums at r1
  have HX := Lib.hid (Box.new w [.int .i64 c, .int .i64 i, .string ⟨v.toArray⟩, .string ⟨n.toArray⟩] 33)
  have HB := Lib.hid ((Below.refl w.heap.size w).alloc (Nat.le_refl _) (.cells #[.int .i64 c, .int .i64 i, .string ⟨v.toArray⟩, .string ⟨n.toArray⟩] 33))
  have F := fun W => conv_new W (Chp.head c i (n.length + 4)) _ (four_cells c i (n.length + 4) hc hi (by omega))
  rw [show ((n.length + 4 : Nat) : Int) = 4 + (n.length : Int) by omega, Chp.head_length] at F
  obtain ⟨S0, hS0⟩ : ∃ S0, S0 = Chp.head c i (n.length + 4) := ⟨_, rfl⟩
  rw [← hS0] at F r1
  clear hS0
  obtain ⟨hc1, hc2⟩ := hc
  obtain ⟨hi1, hi2⟩ := hi
  go_enter Tryd.func35, Tryd.ntmps35
  go_wp2_with fail
  refine (J.out _).mono ?_
  rintro e w1 ⟨rfl, hb1⟩
  have B1 := Lib.hid (bel2 HB.out hb1)
  have X1 := Lib.hid (HX.out.below hb1)
  have k0 := X1.out 0 _ rfl
  have k1 := X1.out 1 _ rfl
  have k3 := X1.out 3 _ rfl
  have hz := X1.out.lt
  clear hb1
  go_wp2_with (go_at_call 43; refine (V.out _).mono ?_; rintro e w2 ⟨rfl, rfl⟩)
  go_ret2
  exact ⟨rfl, B1.out.alloc B1.out.size _⟩
set_option maxHeartbeats 800000 in
theorem put_value (c i : Int) (v n A b U : List UInt8) (w : World) (hc : 0 ≤ c ∧ c ≤ 255) (hi : 0 ≤ i ∧ i ≤ 255) (hb : b.length ≤ 509) (hv : v.length ≤ 255)
    (J : Hid (∀ W, Calls Tryd.prog 42 #[.agg #[.int .i64 c, .int .i64 i, .string ⟨v.toArray⟩, .string ⟨n.toArray⟩]] W fun e w' => e = .returned (.int .i64 0) ∧ Below W.heap.size W w'))
    (V : Hid (∀ W, Calls Tryd.prog 43 #[.int .i64 c] W fun e w' => e = .returned (.bool true) ∧ W = w'))
    (r1 : Sums [UInt8.ofNat v.length] v A) (r2 : Sums A n b) (r3 : Sums (Chp.head c i (b.length + 4)) b U) :
    Calls Tryd.prog 35 #[.agg #[.int .i64 c, .int .i64 i, .string ⟨v.toArray⟩, .string ⟨n.toArray⟩]] w fun e w' => e = .returned (.tuple #[.string ⟨U.toArray⟩, .int .i64 0]) ∧ Below w.heap.size w w' := by
  unfold Sums at r1 r2 r3
  have HX := Lib.hid (Box.new w [.int .i64 c, .int .i64 i, .string ⟨v.toArray⟩, .string ⟨n.toArray⟩] 33)
  have HB := Lib.hid ((Below.refl w.heap.size w).alloc (Nat.le_refl _) (.cells #[.int .i64 c, .int .i64 i, .string ⟨v.toArray⟩, .string ⟨n.toArray⟩] 33))
  have F := fun (W : World) (C : Obj) => conv_new_at (W.alloc C) (W.heap.size + 1) (by simp) (Chp.head c i (b.length + 4)) _ (four_cells c i (b.length + 4) hc hi (by omega))
  rw [show ((b.length + 4 : Nat) : Int) = 4 + (b.length : Int) by omega, Chp.head_length] at F
  obtain ⟨S0, hS0⟩ : ∃ S0, S0 = Chp.head c i (b.length + 4) := ⟨_, rfl⟩
  rw [← hS0] at F r3
  have F1 := fun W => conv_new W [UInt8.ofNat v.length] _ (one_cell v.length hv)
  obtain ⟨S1, hS1⟩ : ∃ S1, S1 = [UInt8.ofNat v.length] := ⟨_, rfl⟩
  rw [← hS1, show S1.length = 1 by rw [hS1]; rfl] at F1
  rw [← hS1] at r1
  clear hS0 hS1
  obtain ⟨hc1, hc2⟩ := hc
  obtain ⟨hi1, hi2⟩ := hi
  go_enter Tryd.func35, Tryd.ntmps35
  go_wp2_with fail
  refine (J.out _).mono ?_
  rintro e w1 ⟨rfl, hb1⟩
  have B1 := Lib.hid (bel2 HB.out hb1)
  have X1 := Lib.hid (HX.out.below hb1)
  have k0 := X1.out 0 _ rfl
  have k1 := X1.out 1 _ rfl
  have k2 := X1.out 2 _ rfl
  have k3 := X1.out 3 _ rfl
  have hz := X1.out.lt
  clear hb1
  go_wp2_with (go_at_call 43; refine (V.out _).mono ?_; rintro e w2 ⟨rfl, rfl⟩)
  go_ret2
  exact ⟨rfl, (B1.out.alloc B1.out.size _).alloc (Nat.le_trans B1.out.size (by simp)) _⟩
/-- The contract of Put. -/
theorem hput_any (c i : Int) (v n : List UInt8) (w : World) (hl : v.length ≤ 4611686018427387904) :
    Calls Tryd.prog 35 #[.agg #[.int .i64 c, .int .i64 i, .string ⟨v.toArray⟩, .string ⟨n.toArray⟩]] w fun e w' => e = .returned (.tuple #[.string ⟨(Chp.put (c, i, v, n)).toArray⟩, .int .i64 (Chp.code (c, i, v, n))]) ∧ Below w.heap.size w w' := by
  have J := fun W => judge_any c i v n W hl
  have V := fun W => hasv_any c W
  by_cases he : Chp.code (c, i, v, n) = 0
  · have hlen := Chp.body_len _ he
    rw [Chp.put_good _ he, he]
    rw [he] at J
    rcases Chp.code_ways c i v n with ⟨_, e⟩ | ⟨_, _, e⟩ | ⟨_, _, _, e⟩ | ⟨_, _, _, _, e⟩ | ⟨h1, h2, h3, h4, _⟩
    · omega
    · omega
    · omega
    · omega
    · unfold Chp.wire
      unfold Chp.body at hlen ⊢
      dsimp only at hlen ⊢
      cases hv : Chp.val c
      · rw [hv] at V hlen
        rw [if_neg (by simp)] at hlen ⊢
        exact put_text c i v n _ w (byte_in c (Chp.kind_byte c h1)) (byte_in i h2) hlen (Lib.hid J) (Lib.hid V) (sums _ _ (by rw [Chp.head_length]; omega))
      · rw [hv] at V hlen
        rw [if_pos rfl] at hlen ⊢
        have hv2 := Chp.holds_val c v h3 hv
        exact put_value c i v n (UInt8.ofNat v.length :: v) _ _ w (byte_in c (Chp.kind_byte c h1)) (byte_in i h2) hlen hv2.2 (Lib.hid J) (Lib.hid V) (sums [_] _ (by simp; omega)) (sums (_ :: v) n (by simp; omega)) (sums _ _ (by rw [Chp.head_length]; omega))
  · rw [Chp.put_bad _ he]
    exact put_bad c i _ _ _ w (by simpa using he) (Lib.hid J)
end Go.Proofs.YtaagfmnpeimakaaDoor.H
