/-
  Contract of the document's own Bap. (Written by a script: the ways that are refused.)
-/
import Derived.Test.YtmonoicdejallaaZ3
import Derived.Test.YtmonoicdejallaaO3
import Derived.Test.YtmonoicdejallaaTwo
import Derived.Test.YtmonoicdejallaaMasks
import Derived.RegionTactic
import Derived.Deep.RegionWith
import Derived.Deep.RegionHeld
import Derived.BigRegion
namespace Go.Proofs.Ytmonoicdejallaa.Z
open Go.RowKit
theorem and_one (c : Int) : bits BinOp.and IntKind.i64 c 1 = c % 2 := i64_mask c 1 (by omega)
theorem resp_bool (c : Int) : (bits BinOp.and IntKind.i64 c 1 == 0) = Bap.resp c := by rw [and_one]; rfl
set_option maxRecDepth 100000 in
set_option maxHeartbeats 400000 in
theorem rb_c_low (c i a : Int) (v : Value) (w : World) (_ : c < 1) :
    Calls Try.prog 9 #[.agg #[.int .i64 c, .int .i64 i, .int .i64 a, v]] w fun e w' => e = .returned (.tuple #[.string ⟨#[]⟩, .int .i64 900]) ∧ Below w.heap.size w w' := by
  have HB := Lib.hid ((Below.refl w.heap.size w).alloc (Nat.le_refl _) (.cells #[.int .i64 c, .int .i64 i, .int .i64 a, v] 24))
  go_enter Try.func9, Try.ntmps9
  go_wp2_with fail
  go_ret2
  exact ⟨rfl, HB.out⟩
set_option maxRecDepth 100000 in
set_option maxHeartbeats 400000 in
theorem rb_c_high (c i a : Int) (v : Value) (w : World) (_ : 8 < c) :
    Calls Try.prog 9 #[.agg #[.int .i64 c, .int .i64 i, .int .i64 a, v]] w fun e w' => e = .returned (.tuple #[.string ⟨#[]⟩, .int .i64 900]) ∧ Below w.heap.size w w' := by
  have HB := Lib.hid ((Below.refl w.heap.size w).alloc (Nat.le_refl _) (.cells #[.int .i64 c, .int .i64 i, .int .i64 a, v] 24))
  go_enter Try.func9, Try.ntmps9
  go_wp2_with fail
  go_ret2
  exact ⟨rfl, HB.out⟩
set_option maxRecDepth 100000 in
set_option maxHeartbeats 400000 in
theorem rb_i_low (c i a : Int) (v : Value) (w : World) (_ : 1 ≤ c) (_ : c ≤ 8) (_ : i < 0) :
    Calls Try.prog 9 #[.agg #[.int .i64 c, .int .i64 i, .int .i64 a, v]] w fun e w' => e = .returned (.tuple #[.string ⟨#[]⟩, .int .i64 900]) ∧ Below w.heap.size w w' := by
  have HB := Lib.hid ((Below.refl w.heap.size w).alloc (Nat.le_refl _) (.cells #[.int .i64 c, .int .i64 i, .int .i64 a, v] 24))
  go_enter Try.func9, Try.ntmps9
  go_wp2_with fail
  go_ret2
  exact ⟨rfl, HB.out⟩
set_option maxRecDepth 100000 in
set_option maxHeartbeats 400000 in
theorem rb_i_high (c i a : Int) (v : Value) (w : World) (_ : 1 ≤ c) (_ : c ≤ 8) (_ : 0 ≤ i) (_ : 255 < i) :
    Calls Try.prog 9 #[.agg #[.int .i64 c, .int .i64 i, .int .i64 a, v]] w fun e w' => e = .returned (.tuple #[.string ⟨#[]⟩, .int .i64 900]) ∧ Below w.heap.size w w' := by
  have HB := Lib.hid ((Below.refl w.heap.size w).alloc (Nat.le_refl _) (.cells #[.int .i64 c, .int .i64 i, .int .i64 a, v] 24))
  go_enter Try.func9, Try.ntmps9
  go_wp2_with fail
  go_ret2
  exact ⟨rfl, HB.out⟩
set_option maxRecDepth 100000 in
set_option maxHeartbeats 400000 in
theorem rb_a_low (c i a : Int) (v : Value) (w : World) (_ : 1 ≤ c) (_ : c ≤ 8) (_ : 0 ≤ i) (_ : i ≤ 255) (_ : a < 0) :
    Calls Try.prog 9 #[.agg #[.int .i64 c, .int .i64 i, .int .i64 a, v]] w fun e w' => e = .returned (.tuple #[.string ⟨#[]⟩, .int .i64 900]) ∧ Below w.heap.size w w' := by
  have HB := Lib.hid ((Below.refl w.heap.size w).alloc (Nat.le_refl _) (.cells #[.int .i64 c, .int .i64 i, .int .i64 a, v] 24))
  go_enter Try.func9, Try.ntmps9
  go_wp2_with fail
  go_ret2
  exact ⟨rfl, HB.out⟩
set_option maxRecDepth 100000 in
set_option maxHeartbeats 400000 in
theorem rb_a_high (c i a : Int) (v : Value) (w : World) (_ : 1 ≤ c) (_ : c ≤ 8) (_ : 0 ≤ i) (_ : i ≤ 255) (_ : 0 ≤ a) (_ : 255 < a) :
    Calls Try.prog 9 #[.agg #[.int .i64 c, .int .i64 i, .int .i64 a, v]] w fun e w' => e = .returned (.tuple #[.string ⟨#[]⟩, .int .i64 900]) ∧ Below w.heap.size w w' := by
  have HB := Lib.hid ((Below.refl w.heap.size w).alloc (Nat.le_refl _) (.cells #[.int .i64 c, .int .i64 i, .int .i64 a, v] 24))
  go_enter Try.func9, Try.ntmps9
  go_wp2_with fail
  go_ret2
  exact ⟨rfl, HB.out⟩
set_option maxRecDepth 100000 in
set_option maxHeartbeats 400000 in
theorem rb_answer (c i a : Int) (v : Value) (w : World) (_ : 1 ≤ c) (_ : c ≤ 8) (_ : 0 ≤ i) (_ : i ≤ 255) (_ : 0 ≤ a) (_ : a ≤ 255) (hr : Bap.resp c = false) (ha : a ≠ 0) :
    Calls Try.prog 9 #[.agg #[.int .i64 c, .int .i64 i, .int .i64 a, v]] w fun e w' => e = .returned (.tuple #[.string ⟨#[]⟩, .int .i64 900]) ∧ Below w.heap.size w w' := by
  have hq : (a != 0) = true := by simpa using ha
  have rb := resp_bool c
  rw [hr] at rb
  clear hr ha
  have HB := Lib.hid ((Below.refl w.heap.size w).alloc (Nat.le_refl _) (.cells #[.int .i64 c, .int .i64 i, .int .i64 a, v] 24))
  go_enter Try.func9, Try.ntmps9
  go_wp2_with fail
  go_ret2
  exact ⟨rfl, HB.out⟩
set_option maxRecDepth 100000 in
set_option maxHeartbeats 1600000 in
theorem rb_opts0 (c i : Int) (v : Value) (t : List UInt8) (w : World) (_ : 1 ≤ c) (_ : c ≤ 8) (_ : 0 ≤ i) (_ : i ≤ 255) (hr : Bap.resp c = false) (k : Int) (hk : k ≠ 0)
    (P : Hid (∀ W, Below w.heap.size w W → Calls Try.prog 22 #[v] W fun e w' => e = .returned (.tuple #[.string ⟨t.toArray⟩, .int .i64 k]) ∧ Below W.heap.size W w')) :
    Calls Try.prog 9 #[.agg #[.int .i64 c, .int .i64 i, .int .i64 0, v]] w fun e w' => e = .returned (.tuple #[.string ⟨#[]⟩, .int .i64 900]) ∧ Below w.heap.size w w' := by
  have hkq : (k != 0) = true := by simpa using hk
  clear hk
  have rb := resp_bool c
  rw [hr] at rb
  clear hr
  have HX := Lib.hid (Box.new w [.int .i64 c, .int .i64 i, .int .i64 0, v] 24)
  have HB := Lib.hid ((Below.refl w.heap.size w).alloc (Nat.le_refl _) (.cells #[.int .i64 c, .int .i64 i, .int .i64 0, v] 24))
  go_enter Try.func9, Try.ntmps9
  go_wp2_with fail
  refine (P.out _ HB.out).mono ?_
  rintro e w2 ⟨rfl, hb2⟩
  have HX2 := Lib.hid (HX.out.below hb2)
  have HB2 := Lib.hid (bel2 HB.out hb2)
  clear hb2
  go_wp2_with fail
  go_ret2
  exact ⟨rfl, HB2.out⟩
set_option maxRecDepth 100000 in
set_option maxHeartbeats 1600000 in
theorem rb_opts1 (c i a : Int) (v : Value) (t : List UInt8) (w : World) (_ : 1 ≤ c) (_ : c ≤ 8) (_ : 0 ≤ i) (_ : i ≤ 255) (_ : 0 ≤ a) (_ : a ≤ 255) (hr : Bap.resp c = true) (k : Int) (hk : k ≠ 0)
    (P : Hid (∀ W, Below w.heap.size w W → Calls Try.prog 22 #[v] W fun e w' => e = .returned (.tuple #[.string ⟨t.toArray⟩, .int .i64 k]) ∧ Below W.heap.size W w')) :
    Calls Try.prog 9 #[.agg #[.int .i64 c, .int .i64 i, .int .i64 a, v]] w fun e w' => e = .returned (.tuple #[.string ⟨#[]⟩, .int .i64 900]) ∧ Below w.heap.size w w' := by
  have hkq : (k != 0) = true := by simpa using hk
  clear hk
  have rb := resp_bool c
  rw [hr] at rb
  clear hr
  have HX := Lib.hid (Box.new w [.int .i64 c, .int .i64 i, .int .i64 a, v] 24)
  have HB := Lib.hid ((Below.refl w.heap.size w).alloc (Nat.le_refl _) (.cells #[.int .i64 c, .int .i64 i, .int .i64 a, v] 24))
  go_enter Try.func9, Try.ntmps9
  go_wp2_with fail
  refine (P.out _ HB.out).mono ?_
  rintro e w2 ⟨rfl, hb2⟩
  have HX2 := Lib.hid (HX.out.below hb2)
  have HB2 := Lib.hid (bel2 HB.out hb2)
  clear hb2
  go_wp2_with fail
  go_ret2
  exact ⟨rfl, HB2.out⟩
set_option maxRecDepth 100000 in
set_option maxHeartbeats 1600000 in
theorem rb_long0 (c i : Int) (v : Value) (t : List UInt8) (w : World) (_ : 1 ≤ c) (_ : c ≤ 8) (_ : 0 ≤ i) (_ : i ≤ 255) (hr : Bap.resp c = false) (ht : 2044 < t.length) (ht2 : t.length ≤ 2049)
    (P : Hid (∀ W, Below w.heap.size w W → Calls Try.prog 22 #[v] W fun e w' => e = .returned (.tuple #[.string ⟨t.toArray⟩, .int .i64 0]) ∧ Below W.heap.size W w')) :
    Calls Try.prog 9 #[.agg #[.int .i64 c, .int .i64 i, .int .i64 0, v]] w fun e w' => e = .returned (.tuple #[.string ⟨#[]⟩, .int .i64 901]) ∧ Below w.heap.size w w' := by
  have rb := resp_bool c
  rw [hr] at rb
  clear hr
  have HX := Lib.hid (Box.new w [.int .i64 c, .int .i64 i, .int .i64 0, v] 24)
  have HB := Lib.hid ((Below.refl w.heap.size w).alloc (Nat.le_refl _) (.cells #[.int .i64 c, .int .i64 i, .int .i64 0, v] 24))
  go_enter Try.func9, Try.ntmps9
  go_wp2_with fail
  refine (P.out _ HB.out).mono ?_
  rintro e w2 ⟨rfl, hb2⟩
  have HX2 := Lib.hid (HX.out.below hb2)
  have HB2 := Lib.hid (bel2 HB.out hb2)
  clear hb2
  go_wp2_with fail
  go_ret2
  exact ⟨rfl, HB2.out⟩
set_option maxRecDepth 100000 in
set_option maxHeartbeats 1600000 in
theorem rb_long1 (c i a : Int) (v : Value) (t T : List UInt8) (w : World) (_ : 1 ≤ c) (_ : c ≤ 8) (_ : 0 ≤ i) (_ : i ≤ 255) (_ : 0 ≤ a) (_ : a ≤ 255) (hr : Bap.resp c = true) (r0 : Sums [UInt8.ofNat a.toNat] t T) (ht : 2044 < T.length) (ht2 : T.length ≤ 2049)
    (P : Hid (∀ W, Below w.heap.size w W → Calls Try.prog 22 #[v] W fun e w' => e = .returned (.tuple #[.string ⟨t.toArray⟩, .int .i64 0]) ∧ Below W.heap.size W w')) :
    Calls Try.prog 9 #[.agg #[.int .i64 c, .int .i64 i, .int .i64 a, v]] w fun e w' => e = .returned (.tuple #[.string ⟨#[]⟩, .int .i64 901]) ∧ Below w.heap.size w w' := by
  have rb := resp_bool c
  rw [hr] at rb
  clear hr
  have F8 := fun W => conv_new W [UInt8.ofNat a.toNat] #[.int .u8 a] (by simp [Lib.byteCells]; omega)
  obtain ⟨S8, hS8⟩ : ∃ S8, S8 = [UInt8.ofNat a.toNat] := ⟨_, rfl⟩
  have hl8 : S8.length = 1 := by rw [hS8]; rfl
  rw [← hS8, hl8] at F8
  rw [← hS8] at r0
  clear hS8 hl8
  unfold Sums at r0
  have e4 : IntKind.u8.wrap a = a := by rw [IntKind.wrap_u8']; omega
  have HX := Lib.hid (Box.new w [.int .i64 c, .int .i64 i, .int .i64 a, v] 24)
  have HB := Lib.hid ((Below.refl w.heap.size w).alloc (Nat.le_refl _) (.cells #[.int .i64 c, .int .i64 i, .int .i64 a, v] 24))
  go_enter Try.func9, Try.ntmps9
  go_wp2_with fail
  refine (P.out _ HB.out).mono ?_
  rintro e w2 ⟨rfl, hb2⟩
  have HX2 := Lib.hid (HX.out.below hb2)
  have HB2 := Lib.hid (bel2 HB.out hb2)
  have k2 := HX2.out 2 _ rfl
  clear hb2
  go_wp2_with fail
  go_ret2
  exact ⟨rfl, HB2.out.alloc HB2.out.size _⟩
set_option maxRecDepth 100000 in
set_option maxHeartbeats 1600000 in
theorem rb_good0 (c i : Int) (v : Value) (t T0 A0 U : List UInt8) (w : World) (_ : 1 ≤ c) (_ : c ≤ 8) (_ : 0 ≤ i) (_ : i ≤ 255) (hr : Bap.resp c = false) (ht : t.length ≤ 2044)
    (P : Hid (∀ W, Below w.heap.size w W → Calls Try.prog 22 #[v] W fun e w' => e = .returned (.tuple #[.string ⟨t.toArray⟩, .int .i64 0]) ∧ Below W.heap.size W w'))
    (TW : Hid (∀ W, Calls Try.prog 23 #[.int .i64 ((t.length : Int) + 4)] W fun e w' => e = .returned (.string ⟨T0.toArray⟩) ∧ Below W.heap.size W w'))
    (p q : UInt8) (hp : (p.toNat : Int) = c) (hq : (q.toNat : Int) = i) (r1 : Sums [p, q] T0 A0) (r2 : Sums A0 t U) :
    Calls Try.prog 9 #[.agg #[.int .i64 c, .int .i64 i, .int .i64 0, v]] w fun e w' => e = .returned (.tuple #[.string ⟨U.toArray⟩, .int .i64 0]) ∧ Below w.heap.size w w' := by
  have rb := resp_bool c
  rw [hr] at rb
  clear hr
  unfold Sums at r1 r2
  have e1 : IntKind.i64.wrap ((t.length : Int) + 4) = (t.length : Int) + 4 := IntWalk.i64_in _ (by omega)
  have e2 : IntKind.u8.wrap c = c := by rw [IntKind.wrap_u8']; omega
  have e3 : IntKind.u8.wrap i = i := by rw [IntKind.wrap_u8']; omega
  have F := fun W B => conv_two W B p q c i hp hq
  obtain ⟨S0, hS0⟩ : ∃ S0, S0 = [p, q] := ⟨_, rfl⟩
  rw [← hS0] at F r1
  clear hp hq hS0
  have HX := Lib.hid (Box.new w [.int .i64 c, .int .i64 i, .int .i64 0, v] 24)
  have HB := Lib.hid ((Below.refl w.heap.size w).alloc (Nat.le_refl _) (.cells #[.int .i64 c, .int .i64 i, .int .i64 0, v] 24))
  go_enter Try.func9, Try.ntmps9
  go_wp2_with fail
  refine (P.out _ HB.out).mono ?_
  rintro e w2 ⟨rfl, hb2⟩
  have HX2 := Lib.hid (HX.out.below hb2)
  have HB2 := Lib.hid (bel2 HB.out hb2)
  clear hb2
  have K2 : Hid (w2.cell? ⟨w.heap.size, 0, none⟩ = some (.int .i64 c) ∧ w2.cell? ⟨w.heap.size, 1, none⟩ = some (.int .i64 i) ∧ w.heap.size < w2.heap.size ∧ Below w.heap.size w w2) := Lib.hid (box2_of HX2.out HB2.out)
  go_wp2_with fail
  go_region_held (fun a => a.cell? ⟨w.heap.size, 0, none⟩ = some (.int .i64 c) ∧ a.cell? ⟨w.heap.size, 1, none⟩ = some (.int .i64 i) ∧ w.heap.size < a.heap.size ∧ Below w.heap.size w a) (first | assumption | exact box2_drew K2.out | exact box2_alloc (by assumption) _ | exact box2_kept (by assumption) hb4)
    (first | (go_at_call 23; refine (TW.out _).mono ?_; rintro e w4 ⟨rfl, hb4⟩; obtain ⟨hc4, hf4⟩ := bcell hb4))
  all_goals
    rename_i hH
    have H9 := Lib.hid hH
    clear hH
    go_wp2_with fail
    go_ret2
    exact ⟨rfl, H9.out.2.2.2⟩
set_option maxRecDepth 100000 in
set_option maxHeartbeats 1600000 in
theorem rb_good1 (c i a : Int) (v : Value) (t T T0 A0 U : List UInt8) (w : World) (_ : 1 ≤ c) (_ : c ≤ 8) (_ : 0 ≤ i) (_ : i ≤ 255) (_ : 0 ≤ a) (_ : a ≤ 255) (hr : Bap.resp c = true) (r0 : Sums [UInt8.ofNat a.toNat] t T) (ht : T.length ≤ 2044)
    (P : Hid (∀ W, Below w.heap.size w W → Calls Try.prog 22 #[v] W fun e w' => e = .returned (.tuple #[.string ⟨t.toArray⟩, .int .i64 0]) ∧ Below W.heap.size W w'))
    (TW : Hid (∀ W, Calls Try.prog 23 #[.int .i64 ((T.length : Int) + 4)] W fun e w' => e = .returned (.string ⟨T0.toArray⟩) ∧ Below W.heap.size W w'))
    (p q : UInt8) (hp : (p.toNat : Int) = c) (hq : (q.toNat : Int) = i) (r1 : Sums [p, q] T0 A0) (r2 : Sums A0 T U) :
    Calls Try.prog 9 #[.agg #[.int .i64 c, .int .i64 i, .int .i64 a, v]] w fun e w' => e = .returned (.tuple #[.string ⟨U.toArray⟩, .int .i64 0]) ∧ Below w.heap.size w w' := by
  have rb := resp_bool c
  rw [hr] at rb
  clear hr
  have F8 := fun W => conv_new W [UInt8.ofNat a.toNat] #[.int .u8 a] (by simp [Lib.byteCells]; omega)
  obtain ⟨S8, hS8⟩ : ∃ S8, S8 = [UInt8.ofNat a.toNat] := ⟨_, rfl⟩
  have hl8 : S8.length = 1 := by rw [hS8]; rfl
  rw [← hS8, hl8] at F8
  rw [← hS8] at r0
  clear hS8 hl8
  unfold Sums at r0
  have e4 : IntKind.u8.wrap a = a := by rw [IntKind.wrap_u8']; omega
  unfold Sums at r1 r2
  have e1 : IntKind.i64.wrap ((T.length : Int) + 4) = (T.length : Int) + 4 := IntWalk.i64_in _ (by omega)
  have e2 : IntKind.u8.wrap c = c := by rw [IntKind.wrap_u8']; omega
  have e3 : IntKind.u8.wrap i = i := by rw [IntKind.wrap_u8']; omega
  have F := fun W B => conv_two W B p q c i hp hq
  obtain ⟨S0, hS0⟩ : ∃ S0, S0 = [p, q] := ⟨_, rfl⟩
  rw [← hS0] at F r1
  clear hp hq hS0
  have HX := Lib.hid (Box.new w [.int .i64 c, .int .i64 i, .int .i64 a, v] 24)
  have HB := Lib.hid ((Below.refl w.heap.size w).alloc (Nat.le_refl _) (.cells #[.int .i64 c, .int .i64 i, .int .i64 a, v] 24))
  go_enter Try.func9, Try.ntmps9
  go_wp2_with fail
  refine (P.out _ HB.out).mono ?_
  rintro e w2 ⟨rfl, hb2⟩
  have HX2 := Lib.hid (HX.out.below hb2)
  have HB2 := Lib.hid (bel2 HB.out hb2)
  have k2 := HX2.out 2 _ rfl
  clear hb2
  have K2 : Hid ((w2.alloc (.cells #[.int .u8 a] 5)).cell? ⟨w.heap.size, 0, none⟩ = some (.int .i64 c) ∧ (w2.alloc (.cells #[.int .u8 a] 5)).cell? ⟨w.heap.size, 1, none⟩ = some (.int .i64 i) ∧ w.heap.size < (w2.alloc (.cells #[.int .u8 a] 5)).heap.size ∧ Below w.heap.size w (w2.alloc (.cells #[.int .u8 a] 5))) := Lib.hid (box2_alloc (box2_of HX2.out HB2.out) _)
  go_wp2_with fail
  clear k2
  go_region_held (fun a => a.cell? ⟨w.heap.size, 0, none⟩ = some (.int .i64 c) ∧ a.cell? ⟨w.heap.size, 1, none⟩ = some (.int .i64 i) ∧ w.heap.size < a.heap.size ∧ Below w.heap.size w a) (first | assumption | exact box2_drew K2.out | exact box2_alloc (by assumption) _ | exact box2_kept (by assumption) hb4)
    (first | (go_at_call 23; refine (TW.out _).mono ?_; rintro e w4 ⟨rfl, hb4⟩; obtain ⟨hc4, hf4⟩ := bcell hb4))
  all_goals
    rename_i hH
    have H9 := Lib.hid hH
    clear hH
    go_wp2_with fail
    go_ret2
    exact ⟨rfl, H9.out.2.2.2⟩
end Go.Proofs.Ytmonoicdejallaa.Z
