/-
  Contract of the program's Put of a packet.
-/
import Derived.Test.YteabkmelnoefiaaGreatDoorZ10
namespace Go.Proofs.YteabkmelnoefiaaGreatDoor.C
open Go.RowKit
set_option maxRecDepth 100000
theorem four_cells (c i : Int) (n : Nat) (hc : 0 ≤ c ∧ c ≤ 255) (hi : 0 ≤ i ∧ i ≤ 255) (hn : n < 65536) : (#[Value.int .u8 c, .int .u8 i, .int .u8 ((n : Int) / 256), .int .u8 ((n : Int) % 256)] : Array Value) = (Lib.byteCells (Ctl.head c i n)).toArray := by
  have h1 : (UInt8.ofNat (n / 256)).toNat = n / 256 := by simp; omega
  have h2 : ((UInt8.ofNat c.toNat).toNat : Int) = c := by simp; omega
  have h3 : ((UInt8.ofNat i.toNat).toNat : Int) = i := by simp; omega
  simp only [Ctl.head, Lib.byteCells, List.map_cons, List.map_nil, h1, h2, h3]
  simp
theorem byte_in (z : Int) (h : Ctl.byte z = true) : 0 ≤ z ∧ z ≤ 255 := by simpa [Ctl.byte] using h
set_option maxHeartbeats 800000 in
theorem put_good_walk (c i : Int) (v : Value) (t d A U : List UInt8) (n : Nat) (w : World) (hc : 0 ≤ c ∧ c ≤ 255) (hi : 0 ≤ i ∧ i ≤ 255) (hn : n = t.length + d.length + 4) (hn2 : n ≤ 2048)
    (B1 : Hid (∀ W, Calls Tryz.prog 58 #[.int .i64 c] W fun e w' => e = .returned (.bool true) ∧ W = w'))
    (B2 : Hid (∀ W, Calls Tryz.prog 58 #[.int .i64 i] W fun e w' => e = .returned (.bool true) ∧ W = w'))
    (P : Hid (∀ W, Below w.heap.size w W → Calls Tryz.prog 59 #[v] W fun e w' => e = .returned (.tuple #[.string ⟨t.toArray⟩, .int .i64 0]) ∧ Below W.heap.size W w'))
    (H : Hid (∀ W, Calls Tryz.prog 60 #[.agg #[.int .i64 c, .int .i64 i, v, .string ⟨d.toArray⟩]] W fun e w' => e = .returned (.bool true) ∧ Below W.heap.size W w'))
    (r1 : O.Sums (Ctl.head c i n) t A) (r2 : O.Sums A d U) :
    Calls Tryz.prog 39 #[.agg #[.int .i64 c, .int .i64 i, v, .string ⟨d.toArray⟩]] w fun e w' => e = .returned (.tuple #[.string ⟨U.toArray⟩, .int .i64 0]) ∧ Below w.heap.size w w' := by
  unfold O.Sums at r1 r2
  have HX := Lib.hid (Box.new w [.int .i64 c, .int .i64 i, v, .string ⟨d.toArray⟩] 36)
  have HB := Lib.hid ((Below.refl w.heap.size w).alloc (Nat.le_refl _) (.cells #[.int .i64 c, .int .i64 i, v, .string ⟨d.toArray⟩] 36))
  have F := fun W => conv_new W (Ctl.head c i n) _ (four_cells c i n hc hi (by omega))
  rw [show (n : Int) = 4 + (t.length : Int) + (d.length : Int) by omega, Ctl.head_length] at F
  obtain ⟨S0, hS0⟩ : ∃ S0, S0 = Ctl.head c i n := ⟨_, rfl⟩
  rw [← hS0] at F r1
  clear hS0
  obtain ⟨hc1, hc2⟩ := hc
  obtain ⟨hi1, hi2⟩ := hi
  go_enter Tryz.func39, Tryz.ntmps39
  go_wp2_with (first | (go_at_call 58; first | (refine (B1.out _).mono ?_; rintro e w1 ⟨rfl, rfl⟩) | (refine (B2.out _).mono ?_; rintro e w1 ⟨rfl, rfl⟩)))
  refine (P.out _ HB.out).mono ?_
  rintro e w2 ⟨rfl, hb2⟩
  have HX2 := Lib.hid (HX.out.below hb2)
  have HB2 := Lib.hid (bel2 HB.out hb2)
  have k0 := HX2.out 0 _ rfl
  have k1 := HX2.out 1 _ rfl
  have k2 := HX2.out 2 _ rfl
  have k3 := HX2.out 3 _ rfl
  clear hb2
  go_wp2_with fail
  refine (H.out _).mono ?_
  rintro e w3 ⟨rfl, hb3⟩
  have HX3 := Lib.hid (HX2.out.below hb3)
  have HB3 := Lib.hid (bel2 HB2.out hb3)
  clear k0 k1 k2 k3
  have k0 := HX3.out 0 _ rfl
  have k1 := HX3.out 1 _ rfl
  have k2 := HX3.out 2 _ rfl
  have k3 := HX3.out 3 _ rfl
  have hz := HX3.out.lt
  clear hb3
  go_wp2_with fail
  go_ret2
  exact ⟨rfl, HB3.out.alloc HB3.out.size _⟩
set_option maxHeartbeats 400000 in
theorem put_code_walk (c i : Int) (v : Value) (d : List UInt8) (w : World)
    (B1 : Hid (∀ W, Calls Tryz.prog 58 #[.int .i64 c] W fun e w' => e = .returned (.bool false) ∧ W = w')) :
    Calls Tryz.prog 39 #[.agg #[.int .i64 c, .int .i64 i, v, .string ⟨d.toArray⟩]] w fun e w' => e = .returned (.tuple #[.string ⟨#[]⟩, .int .i64 501]) ∧ Below w.heap.size w w' := by
  have HB := Lib.hid ((Below.refl w.heap.size w).alloc (Nat.le_refl _) (.cells #[.int .i64 c, .int .i64 i, v, .string ⟨d.toArray⟩] 36))
  go_enter Tryz.func39, Tryz.ntmps39
  go_wp2_with (refine (B1.out _).mono ?_; rintro e w1 ⟨rfl, rfl⟩)
  go_ret2
  exact ⟨rfl, HB.out⟩
set_option maxHeartbeats 400000 in
theorem put_id_walk (c i : Int) (v : Value) (d : List UInt8) (w : World)
    (B1 : Hid (∀ W, Calls Tryz.prog 58 #[.int .i64 c] W fun e w' => e = .returned (.bool true) ∧ W = w'))
    (B2 : Hid (∀ W, Calls Tryz.prog 58 #[.int .i64 i] W fun e w' => e = .returned (.bool false) ∧ W = w')) :
    Calls Tryz.prog 39 #[.agg #[.int .i64 c, .int .i64 i, v, .string ⟨d.toArray⟩]] w fun e w' => e = .returned (.tuple #[.string ⟨#[]⟩, .int .i64 501]) ∧ Below w.heap.size w w' := by
  have HB := Lib.hid ((Below.refl w.heap.size w).alloc (Nat.le_refl _) (.cells #[.int .i64 c, .int .i64 i, v, .string ⟨d.toArray⟩] 36))
  go_enter Tryz.func39, Tryz.ntmps39
  go_wp2_with (first | (go_at_call 58; first | (refine (B1.out _).mono ?_; rintro e w1 ⟨rfl, rfl⟩) | (refine (B2.out _).mono ?_; rintro e w1 ⟨rfl, rfl⟩)))
  go_ret2
  exact ⟨rfl, HB.out⟩
set_option maxHeartbeats 400000 in
theorem put_opts_walk (c i : Int) (v : Value) (t d : List UInt8) (k : Int) (w : World) (hk : k ≠ 0)
    (B1 : Hid (∀ W, Calls Tryz.prog 58 #[.int .i64 c] W fun e w' => e = .returned (.bool true) ∧ W = w'))
    (B2 : Hid (∀ W, Calls Tryz.prog 58 #[.int .i64 i] W fun e w' => e = .returned (.bool true) ∧ W = w'))
    (P : Hid (∀ W, Below w.heap.size w W → Calls Tryz.prog 59 #[v] W fun e w' => e = .returned (.tuple #[.string ⟨t.toArray⟩, .int .i64 k]) ∧ Below W.heap.size W w')) :
    Calls Tryz.prog 39 #[.agg #[.int .i64 c, .int .i64 i, v, .string ⟨d.toArray⟩]] w fun e w' => e = .returned (.tuple #[.string ⟨#[]⟩, .int .i64 502]) ∧ Below w.heap.size w w' := by
  have hq : (k != 0) = true := by simpa using hk
  clear hk
  have HB := Lib.hid ((Below.refl w.heap.size w).alloc (Nat.le_refl _) (.cells #[.int .i64 c, .int .i64 i, v, .string ⟨d.toArray⟩] 36))
  go_enter Tryz.func39, Tryz.ntmps39
  go_wp2_with (first | (go_at_call 58; first | (refine (B1.out _).mono ?_; rintro e w1 ⟨rfl, rfl⟩) | (refine (B2.out _).mono ?_; rintro e w1 ⟨rfl, rfl⟩)))
  refine (P.out _ HB.out).mono ?_
  rintro e w2 ⟨rfl, hb2⟩
  have HB2 := Lib.hid (bel2 HB.out hb2)
  clear hb2
  go_wp2_with fail
  go_ret2
  exact ⟨rfl, HB2.out⟩
set_option maxHeartbeats 400000 in
theorem put_own_walk (c i : Int) (v : Value) (t d : List UInt8) (w : World)
    (B1 : Hid (∀ W, Calls Tryz.prog 58 #[.int .i64 c] W fun e w' => e = .returned (.bool true) ∧ W = w'))
    (B2 : Hid (∀ W, Calls Tryz.prog 58 #[.int .i64 i] W fun e w' => e = .returned (.bool true) ∧ W = w'))
    (P : Hid (∀ W, Below w.heap.size w W → Calls Tryz.prog 59 #[v] W fun e w' => e = .returned (.tuple #[.string ⟨t.toArray⟩, .int .i64 0]) ∧ Below W.heap.size W w'))
    (H : Hid (∀ W, Calls Tryz.prog 60 #[.agg #[.int .i64 c, .int .i64 i, v, .string ⟨d.toArray⟩]] W fun e w' => e = .returned (.bool false) ∧ Below W.heap.size W w')) :
    Calls Tryz.prog 39 #[.agg #[.int .i64 c, .int .i64 i, v, .string ⟨d.toArray⟩]] w fun e w' => e = .returned (.tuple #[.string ⟨#[]⟩, .int .i64 502]) ∧ Below w.heap.size w w' := by
  have HX := Lib.hid (Box.new w [.int .i64 c, .int .i64 i, v, .string ⟨d.toArray⟩] 36)
  have HB := Lib.hid ((Below.refl w.heap.size w).alloc (Nat.le_refl _) (.cells #[.int .i64 c, .int .i64 i, v, .string ⟨d.toArray⟩] 36))
  go_enter Tryz.func39, Tryz.ntmps39
  go_wp2_with (first | (go_at_call 58; first | (refine (B1.out _).mono ?_; rintro e w1 ⟨rfl, rfl⟩) | (refine (B2.out _).mono ?_; rintro e w1 ⟨rfl, rfl⟩)))
  refine (P.out _ HB.out).mono ?_
  rintro e w2 ⟨rfl, hb2⟩
  have HX2 := Lib.hid (HX.out.below hb2)
  have HB2 := Lib.hid (bel2 HB.out hb2)
  have k0 := HX2.out 0 _ rfl
  have k1 := HX2.out 1 _ rfl
  have k2 := HX2.out 2 _ rfl
  have k3 := HX2.out 3 _ rfl
  clear hb2
  go_wp2_with fail
  refine (H.out _).mono ?_
  rintro e w3 ⟨rfl, hb3⟩
  have HB3 := Lib.hid (bel2 HB2.out hb3)
  clear hb3
  go_wp2_with fail
  go_ret2
  exact ⟨rfl, HB3.out⟩
set_option maxHeartbeats 400000 in
theorem put_long_walk (c i : Int) (v : Value) (t d : List UInt8) (w : World) (hn : 2048 < t.length + d.length + 4) (ht : t.length ≤ 2048) (hd : d.length ≤ 4611686018427387904)
    (B1 : Hid (∀ W, Calls Tryz.prog 58 #[.int .i64 c] W fun e w' => e = .returned (.bool true) ∧ W = w'))
    (B2 : Hid (∀ W, Calls Tryz.prog 58 #[.int .i64 i] W fun e w' => e = .returned (.bool true) ∧ W = w'))
    (P : Hid (∀ W, Below w.heap.size w W → Calls Tryz.prog 59 #[v] W fun e w' => e = .returned (.tuple #[.string ⟨t.toArray⟩, .int .i64 0]) ∧ Below W.heap.size W w'))
    (H : Hid (∀ W, Calls Tryz.prog 60 #[.agg #[.int .i64 c, .int .i64 i, v, .string ⟨d.toArray⟩]] W fun e w' => e = .returned (.bool true) ∧ Below W.heap.size W w')) :
    Calls Tryz.prog 39 #[.agg #[.int .i64 c, .int .i64 i, v, .string ⟨d.toArray⟩]] w fun e w' => e = .returned (.tuple #[.string ⟨#[]⟩, .int .i64 503]) ∧ Below w.heap.size w w' := by
  have HX := Lib.hid (Box.new w [.int .i64 c, .int .i64 i, v, .string ⟨d.toArray⟩] 36)
  have HB := Lib.hid ((Below.refl w.heap.size w).alloc (Nat.le_refl _) (.cells #[.int .i64 c, .int .i64 i, v, .string ⟨d.toArray⟩] 36))
  go_enter Tryz.func39, Tryz.ntmps39
  go_wp2_with (first | (go_at_call 58; first | (refine (B1.out _).mono ?_; rintro e w1 ⟨rfl, rfl⟩) | (refine (B2.out _).mono ?_; rintro e w1 ⟨rfl, rfl⟩)))
  refine (P.out _ HB.out).mono ?_
  rintro e w2 ⟨rfl, hb2⟩
  have HX2 := Lib.hid (HX.out.below hb2)
  have HB2 := Lib.hid (bel2 HB.out hb2)
  have k0 := HX2.out 0 _ rfl
  have k1 := HX2.out 1 _ rfl
  have k2 := HX2.out 2 _ rfl
  have k3 := HX2.out 3 _ rfl
  clear hb2
  go_wp2_with fail
  refine (H.out _).mono ?_
  rintro e w3 ⟨rfl, hb3⟩
  have HX3 := Lib.hid (HX2.out.below hb3)
  have HB3 := Lib.hid (bel2 HB2.out hb3)
  clear k0 k1 k2 k3
  have k0 := HX3.out 0 _ rfl
  have k1 := HX3.out 1 _ rfl
  have k2 := HX3.out 2 _ rfl
  have k3 := HX3.out 3 _ rfl
  clear hb3
  go_wp2_with fail
  go_ret2
  exact ⟨rfl, HB3.out⟩
theorem opt_put_len (os : List Opt.Op) (h : Opt.code os = 0) : Opt.put os = Opt.wires os ∧ (Opt.wires os).length ≤ 2048 := by
  refine ⟨if_pos h, ?_⟩
  rcases Opt.code_ways os with ⟨_, e⟩ | ⟨_, _, e⟩ | ⟨_, e, _⟩
  · omega
  · omega
  · exact (Opt.fits_short os e).2
/-- The contract of Put. -/
theorem cput_any (c i : Int) (v : Value) (os : List Opt.Op) (d : List UInt8) (w : World) (hr : ReadsO w v os) (hl : os.length ≤ 4611686018427387904) (hd : d.length ≤ 4611686018427387904) :
    Calls Tryz.prog 39 #[.agg #[.int .i64 c, .int .i64 i, v, .string ⟨d.toArray⟩]] w fun e w' => e = .returned (.tuple #[.string ⟨(Ctl.put (c, i, os, d)).toArray⟩, .int .i64 (Ctl.code (c, i, os, d))]) ∧ Below w.heap.size w w' := by
  have B1 := fun W => isByte_any c W
  have B2 := fun W => isByte_any i W
  have P : ∀ W, Below w.heap.size w W → _ := fun W hb => O.oput_any v os W (hr.below hb) hl
  obtain ⟨q, cap, b, off, rfl, _⟩ := hr.at
  have H := fun W => own_any c i q cap os d W hl
  rcases Ctl.code_ways c i os d with ⟨h1, e⟩ | ⟨h1, h2, e⟩ | ⟨h1, h2, h3, e⟩ | ⟨h1, h2, h3, h4, e⟩ | ⟨h1, h2, h3, h4, h5, e⟩ | ⟨h1, h2, h3, h4, h5, e⟩
  · rw [Ctl.put_bad _ (by omega), e]
    rw [h1] at B1
    exact put_code_walk c i _ d w (Lib.hid B1)
  · rw [Ctl.put_bad _ (by omega), e]
    rw [h1] at B1
    rw [h2] at B2
    exact put_id_walk c i _ d w (Lib.hid B1) (Lib.hid B2)
  · rw [Ctl.put_bad _ (by omega), e]
    rw [h1] at B1
    rw [h2] at B2
    exact put_opts_walk c i _ _ d _ w h3 (Lib.hid B1) (Lib.hid B2) (Lib.hid P)
  · rw [Ctl.put_bad _ (by omega), e]
    rw [h1] at B1
    rw [h2] at B2
    rw [h3] at P
    rw [h4] at H
    exact put_own_walk c i _ _ d w (Lib.hid B1) (Lib.hid B2) (Lib.hid P) (Lib.hid H)
  · obtain ⟨g1, g2⟩ := opt_put_len os h3
    rw [Ctl.put_bad _ (by omega), e]
    rw [Ctl.body_both c i os d h4, List.length_append] at h5
    rw [h1] at B1
    rw [h2] at B2
    rw [h3, g1] at P
    rw [h4] at H
    exact put_long_walk c i _ (Opt.wires os) d w h5 g2 hd (Lib.hid B1) (Lib.hid B2) (Lib.hid P) (Lib.hid H)
  · obtain ⟨g1, g2⟩ := opt_put_len os h3
    rw [Ctl.put_good _ e, e]
    unfold Ctl.wire
    dsimp only
    rw [Ctl.body_both c i os d h4] at h5 ⊢
    rw [List.length_append] at h5
    rw [h1] at B1
    rw [h2] at B2
    rw [h3, g1] at P
    rw [h4] at H
    rw [← List.append_assoc]
    refine put_good_walk c i _ (Opt.wires os) d (Ctl.head c i (Opt.wires os ++ d).length.succ.succ.succ.succ ++ Opt.wires os) _ _ w (byte_in c h1) (byte_in i h2) (by rw [List.length_append]) (by rw [List.length_append]; omega) (Lib.hid B1) (Lib.hid B2) (Lib.hid P) (Lib.hid H) (O.sums _ _ ?_) (O.sums _ _ ?_)
    · rw [Ctl.head_length]; omega
    · rw [List.length_append, Ctl.head_length]; omega
end Go.Proofs.YteabkmelnoefiaaGreatDoor.C
