/-
  Contracts: a head ahead of a body (lay), a response's put.
-/
import Derived.Test.YtmonoicdejallaaZ1
namespace Go.Proofs.Ytmonoicdejallaa.Z
open Go.RowKit
/-- What a head laid ahead of a body answers. -/
def laid (c i : Int) (b : List UInt8) : List UInt8 × Int := if Bap.gd c i then (if b.length + 4 ≤ 2048 then (Ctl.head c i (b.length + 4) ++ b, 0) else ([], 901)) else ([], 900)
theorem four_cells (c i : Int) (n : Nat) (hc : 0 ≤ c ∧ c ≤ 255) (hi : 0 ≤ i ∧ i ≤ 255) (hn : n < 65536) : (#[Value.int .u8 c, .int .u8 i, .int .u8 ((n : Int) / 256), .int .u8 ((n : Int) % 256)] : Array Value) = (Lib.byteCells (Ctl.head c i n)).toArray := by
  have h1 : (UInt8.ofNat (n / 256)).toNat = n / 256 := by simp; omega
  have h2 : ((UInt8.ofNat c.toNat).toNat : Int) = c := by simp; omega
  have h3 : ((UInt8.ofNat i.toNat).toNat : Int) = i := by simp; omega
  simp only [Ctl.head, Lib.byteCells, List.map_cons, List.map_nil, h1, h2, h3]
  simp
set_option maxHeartbeats 800000 in
theorem lay_good (c i : Int) (b U : List UInt8) (n : Nat) (w : World) (hc : 0 ≤ c ∧ c ≤ 255) (hi : 0 ≤ i ∧ i ≤ 255) (hn : n = b.length + 4) (hn2 : n ≤ 2048)
    (G : Hid (∀ W, Calls Try.prog 34 #[.agg #[.int .i64 c, .int .i64 i]] W fun e w' => e = .returned (.bool true) ∧ Below W.heap.size W w'))
    (r1 : Sums (Ctl.head c i n) b U) :
    Calls Try.prog 21 #[.agg #[.int .i64 c, .int .i64 i], .string ⟨b.toArray⟩] w fun e w' => e = .returned (.tuple #[.string ⟨U.toArray⟩, .int .i64 0]) ∧ Below w.heap.size w w' := by
  unfold Sums at r1
  have HX := Lib.hid (Box.new w [.int .i64 c, .int .i64 i] 49)
  have HB := Lib.hid ((Below.refl w.heap.size w).alloc (Nat.le_refl _) (.cells #[.int .i64 c, .int .i64 i] 49))
  have F := fun W => conv_new W (Ctl.head c i n) _ (four_cells c i n hc hi (by omega))
  rw [show (n : Int) = 4 + (b.length : Int) by omega, Ctl.head_length] at F
  obtain ⟨S0, hS0⟩ : ∃ S0, S0 = Ctl.head c i n := ⟨_, rfl⟩
  rw [← hS0] at F r1
  clear hS0
  obtain ⟨hc1, hc2⟩ := hc
  obtain ⟨hi1, hi2⟩ := hi
  go_enter Try.func21, Try.ntmps21
  go_wp2_with fail
  refine (G.out _).mono ?_
  rintro e w3 ⟨rfl, hb3⟩
  have HX3 := Lib.hid (HX.out.below hb3)
  have HB3 := Lib.hid (bel2 HB.out hb3)
  have k0 := HX3.out 0 _ rfl
  have k1 := HX3.out 1 _ rfl
  have hz := HX3.out.lt
  clear hb3
  go_wp2_with fail
  go_ret2
  exact ⟨rfl, HB3.out.alloc HB3.out.size _⟩
set_option maxHeartbeats 400000 in
theorem lay_bad (c i : Int) (b : List UInt8) (w : World) (hb : b.length ≤ 4611686018427387904)
    (G : Hid (∀ W, Calls Try.prog 34 #[.agg #[.int .i64 c, .int .i64 i]] W fun e w' => e = .returned (.bool false) ∧ Below W.heap.size W w')) :
    Calls Try.prog 21 #[.agg #[.int .i64 c, .int .i64 i], .string ⟨b.toArray⟩] w fun e w' => e = .returned (.tuple #[.string ⟨#[]⟩, .int .i64 900]) ∧ Below w.heap.size w w' := by
  have HB := Lib.hid ((Below.refl w.heap.size w).alloc (Nat.le_refl _) (.cells #[.int .i64 c, .int .i64 i] 49))
  go_enter Try.func21, Try.ntmps21
  go_wp2_with fail
  refine (G.out _).mono ?_
  rintro e w3 ⟨rfl, hb3⟩
  have HB3 := Lib.hid (bel2 HB.out hb3)
  clear hb3
  go_wp2_with fail
  go_ret2
  exact ⟨rfl, HB3.out⟩
set_option maxHeartbeats 400000 in
theorem lay_long (c i : Int) (b : List UInt8) (w : World) (hn : 2048 < b.length + 4) (hb : b.length ≤ 4611686018427387904)
    (G : Hid (∀ W, Calls Try.prog 34 #[.agg #[.int .i64 c, .int .i64 i]] W fun e w' => e = .returned (.bool true) ∧ Below W.heap.size W w')) :
    Calls Try.prog 21 #[.agg #[.int .i64 c, .int .i64 i], .string ⟨b.toArray⟩] w fun e w' => e = .returned (.tuple #[.string ⟨#[]⟩, .int .i64 901]) ∧ Below w.heap.size w w' := by
  have HB := Lib.hid ((Below.refl w.heap.size w).alloc (Nat.le_refl _) (.cells #[.int .i64 c, .int .i64 i] 49))
  go_enter Try.func21, Try.ntmps21
  go_wp2_with fail
  refine (G.out _).mono ?_
  rintro e w3 ⟨rfl, hb3⟩
  have HB3 := Lib.hid (bel2 HB.out hb3)
  clear hb3
  go_wp2_with fail
  go_ret2
  exact ⟨rfl, HB3.out⟩
/-- The contract of lay. -/
theorem lay_any (c i : Int) (b : List UInt8) (w : World) (hb : b.length ≤ 4611686018427387904) :
    Calls Try.prog 21 #[.agg #[.int .i64 c, .int .i64 i], .string ⟨b.toArray⟩] w fun e w' => e = .returned (.tuple #[.string ⟨(laid c i b).1.toArray⟩, .int .i64 (laid c i b).2]) ∧ Below w.heap.size w w' := by
  have G := fun W => isGood_any c i W
  unfold laid
  by_cases hg : Bap.gd c i = true
  · rw [hg] at G
    have h := (Bap.gd_iff c i).1 hg
    rw [if_pos hg]
    by_cases hn : b.length + 4 ≤ 2048
    · rw [if_pos hn]
      exact lay_good c i b _ (b.length + 4) w (by omega) (by omega) rfl hn (Lib.hid G) (sums _ _ (by rw [Ctl.head_length]; omega))
    · rw [if_neg hn]
      exact lay_long c i b w (by omega) hb (Lib.hid G)
  · rw [if_neg hg]
    rw [show Bap.gd c i = false by simpa using hg] at G
    exact lay_bad c i b w hb (Lib.hid G)
set_option maxHeartbeats 800000 in
theorem rput_good (c i a : Int) (t U A : List UInt8) (k : Int) (w : World) (ha : 0 ≤ a ∧ a ≤ 255)
    (B : Hid (∀ W, Calls Try.prog 33 #[.int .i64 a] W fun e w' => e = .returned (.bool true) ∧ W = w'))
    (r1 : Sums [UInt8.ofNat a.toNat] t A)
    (L : Hid (∀ W, Calls Try.prog 21 #[.agg #[.int .i64 c, .int .i64 i], .string ⟨A.toArray⟩] W fun e w' => e = .returned (.tuple #[.string ⟨U.toArray⟩, .int .i64 k]) ∧ Below W.heap.size W w')) :
    Calls Try.prog 20 #[.agg #[.int .i64 c, .int .i64 i, .int .i64 a], .string ⟨t.toArray⟩] w fun e w' => e = .returned (.tuple #[.string ⟨U.toArray⟩, .int .i64 k]) ∧ Below w.heap.size w w' := by
  unfold Sums at r1
  have F := conv_new_at (w.alloc (.cells #[.int .i64 c, .int .i64 i, .int .i64 a] 51)) (w.heap.size + 1) (by simp) [UInt8.ofNat a.toNat] #[.int .u8 a] (by simp [Lib.byteCells]; omega)
  obtain ⟨S0, hS0⟩ : ∃ S0, S0 = [UInt8.ofNat a.toNat] := ⟨_, rfl⟩
  have hl : S0.length = 1 := by rw [hS0]; rfl
  rw [← hS0, hl] at F
  rw [← hS0] at r1
  clear hS0 hl
  have HB := Lib.hid ((Below.refl w.heap.size w).alloc (Nat.le_refl _) (.cells #[.int .i64 c, .int .i64 i, .int .i64 a] 51))
  obtain ⟨ha1, ha2⟩ := ha
  go_enter Try.func20, Try.ntmps20
  go_wp2_with (first | (go_at_call 33; refine (B.out _).mono ?_; rintro e w1 ⟨rfl, rfl⟩))
  refine (L.out _).mono ?_
  rintro e w3 ⟨rfl, hb3⟩
  have HB3 := Lib.hid (bel2 (HB.out.alloc HB.out.size _) hb3)
  clear hb3
  go_wp2_with fail
  go_ret2
  exact ⟨rfl, HB3.out⟩
set_option maxHeartbeats 400000 in
theorem rput_bad (c i a : Int) (t : List UInt8) (w : World)
    (B : Hid (∀ W, Calls Try.prog 33 #[.int .i64 a] W fun e w' => e = .returned (.bool false) ∧ W = w')) :
    Calls Try.prog 20 #[.agg #[.int .i64 c, .int .i64 i, .int .i64 a], .string ⟨t.toArray⟩] w fun e w' => e = .returned (.tuple #[.string ⟨#[]⟩, .int .i64 900]) ∧ Below w.heap.size w w' := by
  have HB := Lib.hid ((Below.refl w.heap.size w).alloc (Nat.le_refl _) (.cells #[.int .i64 c, .int .i64 i, .int .i64 a] 51))
  go_enter Try.func20, Try.ntmps20
  go_wp2_with (first | (go_at_call 33; refine (B.out _).mono ?_; rintro e w1 ⟨rfl, rfl⟩))
  go_ret2
  exact ⟨rfl, HB.out⟩
/-- What a response with an answer and options answers. -/
def rlaid (c i a : Int) (t : List UInt8) : List UInt8 × Int := if Ctl.byte a then laid c i (UInt8.ofNat a.toNat :: t) else ([], 900)
/-- The contract of a response's put. -/
theorem rput_any (c i a : Int) (t : List UInt8) (w : World) (ht : t.length ≤ 2048) :
    Calls Try.prog 20 #[.agg #[.int .i64 c, .int .i64 i, .int .i64 a], .string ⟨t.toArray⟩] w fun e w' => e = .returned (.tuple #[.string ⟨(rlaid c i a t).1.toArray⟩, .int .i64 (rlaid c i a t).2]) ∧ Below w.heap.size w w' := by
  have B := fun W => isByte_any a W
  unfold rlaid
  by_cases hb : Ctl.byte a = true
  · rw [hb] at B
    rw [if_pos hb]
    exact rput_good c i a t _ (UInt8.ofNat a.toNat :: t) _ w ((Bap.byte_iff a).1 hb) (Lib.hid B) (sums [UInt8.ofNat a.toNat] t (by simp; omega)) (Lib.hid fun W => lay_any c i _ W (by rw [List.length_cons]; omega))
  · rw [if_neg hb]
    rw [show Ctl.byte a = false by simpa using hb] at B
    exact rput_bad c i a t w (Lib.hid B)
end Go.Proofs.Ytmonoicdejallaa.Z
