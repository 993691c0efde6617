/-
  The walk of the law of which kinds, how much data.
-/
import Derived.Test.YtkbknmoheecplaaO9
import Derived.Test.YtkbknmoheecplaaBytes
namespace Go.Proofs.Ytkbknmoheecplaa.O
open Go.RowKit
theorem code_one (z : Int) (d : List UInt8) (h : d.length ≤ 300) : Opt.code [(z, d)] = if 0 ≤ z ∧ z ≤ 255 then (if d.length ≤ 253 then 0 else 401) else 400 := by
  have hw : (Opt.wires [(z, d)]).length = d.length + 2 := by simp [Opt.wires, Opt.one]
  unfold Opt.code Opt.fits
  rw [hw]
  simp only [List.all_cons, List.all_nil, Bool.and_true, Opt.kindOk, Opt.short]
  by_cases h1 : 0 ≤ z
  · by_cases h2 : z ≤ 255
    · by_cases h3 : d.length ≤ 253
      · simp [h1, h2, h3]; omega
      · simp [h1, h2, h3]
    · simp [h1, h2]
  · simp [h1]
set_option maxHeartbeats 800000 in
theorem limits_below (kind many : Int) (m : Nat) (Z : ByteArray) (C : Array Value) (w : World) (hm : m ≤ 3) (hA : bits BinOp.and .i64 many 3 = (m : Int)) (hk : kind < 0)
    (MK : ∀ W : World, (Instr.makeSlice 42 (.int .i64 (251 + (m : Int))) (.int .i64 (251 + (m : Int)))).run Try.prog W = .ok (.slice (some ⟨W.heap.size, 0, none⟩) (251 + m) (251 + m)) (W.alloc (.cells C 5)))
    (CV : ∀ W : World, (convert 42 9 (.slice (some ⟨W.heap.size, 0, none⟩) (251 + m) (251 + m))).run Try.prog (W.alloc (.cells C 5)) = .ok (.string Z) (W.alloc (.cells C 5)))
    (P : Hid (∀ (W : World) (n : Nat), W.heap.size = n → Calls Try.prog 8 #[.slice (some ⟨n, 0, none⟩) 1 1] (W.alloc (.cells #[.int .i64 kind, .string Z] 34)) fun e w' => e = .returned (.tuple #[.string ⟨#[]⟩, .int .i64 400]) ∧ Below W.heap.size W w'))
    (P0 : Hid (∀ W : World, Calls Try.prog 8 #[.slice none 0 0] W fun e w' => e = .returned (.tuple #[.string ⟨#[]⟩, .int .i64 0]) ∧ Below W.heap.size W w')) :
    Calls Try.prog 5 #[.int .i64 kind, .int .i64 many] w fun e w' => e = .returned (.bool true) ∧ Below w.heap.size w w' := by
  go_enter Try.func5, Try.ntmps5
  go_wp2_with fail
  refine (awake_any _).mono ?_
  rintro e w1 ⟨rfl, hb1⟩
  have B1 := Lib.hid hb1
  clear hb1
  have CV1 := CV w1
  go_wp2_with fail
  refine (P.out _ _ (by simp)).mono ?_
  rintro e w2 ⟨rfl, hb2⟩
  have B2 := Lib.hid (B1.out.trans (((Below.refl _ w1).alloc (Nat.le_refl _) (.cells C 5)).trans (hb2.mono (by simp)) |>.mono B1.out.size))
  clear hb2 CV1
  go_wp2_with fail
  refine (P0.out _).mono ?_
  rintro e w3 ⟨rfl, hb3⟩
  have B3 := Lib.hid (bel2 B2.out hb3)
  clear hb3
  go_wp2_with (go_at_call 12; refine (num_any _ _).mono ?_; rintro e w9 ⟨rfl, rfl⟩)
  go_ret
  exact ⟨rfl, B3.out⟩
set_option maxHeartbeats 800000 in
theorem limits_above (kind many : Int) (m : Nat) (Z : ByteArray) (C : Array Value) (w : World) (hm : m ≤ 3) (hA : bits BinOp.and .i64 many 3 = (m : Int)) (hk0 : ¬ kind < 0) (hk : kind > 255)
    (MK : ∀ W : World, (Instr.makeSlice 42 (.int .i64 (251 + (m : Int))) (.int .i64 (251 + (m : Int)))).run Try.prog W = .ok (.slice (some ⟨W.heap.size, 0, none⟩) (251 + m) (251 + m)) (W.alloc (.cells C 5)))
    (CV : ∀ W : World, (convert 42 9 (.slice (some ⟨W.heap.size, 0, none⟩) (251 + m) (251 + m))).run Try.prog (W.alloc (.cells C 5)) = .ok (.string Z) (W.alloc (.cells C 5)))
    (P : Hid (∀ (W : World) (n : Nat), W.heap.size = n → Calls Try.prog 8 #[.slice (some ⟨n, 0, none⟩) 1 1] (W.alloc (.cells #[.int .i64 kind, .string Z] 34)) fun e w' => e = .returned (.tuple #[.string ⟨#[]⟩, .int .i64 400]) ∧ Below W.heap.size W w'))
    (P0 : Hid (∀ W : World, Calls Try.prog 8 #[.slice none 0 0] W fun e w' => e = .returned (.tuple #[.string ⟨#[]⟩, .int .i64 0]) ∧ Below W.heap.size W w')) :
    Calls Try.prog 5 #[.int .i64 kind, .int .i64 many] w fun e w' => e = .returned (.bool true) ∧ Below w.heap.size w w' := by
  go_enter Try.func5, Try.ntmps5
  go_wp2_with fail
  refine (awake_any _).mono ?_
  rintro e w1 ⟨rfl, hb1⟩
  have B1 := Lib.hid hb1
  clear hb1
  have CV1 := CV w1
  go_wp2_with fail
  refine (P.out _ _ (by simp)).mono ?_
  rintro e w2 ⟨rfl, hb2⟩
  have B2 := Lib.hid (B1.out.trans (((Below.refl _ w1).alloc (Nat.le_refl _) (.cells C 5)).trans (hb2.mono (by simp)) |>.mono B1.out.size))
  clear hb2 CV1
  go_wp2_with fail
  refine (P0.out _).mono ?_
  rintro e w3 ⟨rfl, hb3⟩
  have B3 := Lib.hid (bel2 B2.out hb3)
  clear hb3
  go_wp2_with (go_at_call 12; refine (num_any _ _).mono ?_; rintro e w9 ⟨rfl, rfl⟩)
  go_ret
  exact ⟨rfl, B3.out⟩
set_option maxHeartbeats 800000 in
theorem limits_good (kind many : Int) (m : Nat) (S Z : ByteArray) (C : Array Value) (w : World) (hm : m ≤ 3) (hA : bits BinOp.and .i64 many 3 = (m : Int)) (hk0 : ¬ kind < 0) (hk : ¬ kind > 255) (h3 : m ≤ 2)
    (MK : ∀ W : World, (Instr.makeSlice 42 (.int .i64 (251 + (m : Int))) (.int .i64 (251 + (m : Int)))).run Try.prog W = .ok (.slice (some ⟨W.heap.size, 0, none⟩) (251 + m) (251 + m)) (W.alloc (.cells C 5)))
    (CV : ∀ W : World, (convert 42 9 (.slice (some ⟨W.heap.size, 0, none⟩) (251 + m) (251 + m))).run Try.prog (W.alloc (.cells C 5)) = .ok (.string Z) (W.alloc (.cells C 5)))
    (P : Hid (∀ (W : World) (n : Nat), W.heap.size = n → Calls Try.prog 8 #[.slice (some ⟨n, 0, none⟩) 1 1] (W.alloc (.cells #[.int .i64 kind, .string Z] 34)) fun e w' => e = .returned (.tuple #[.string S, .int .i64 0]) ∧ Below W.heap.size W w'))
    (P0 : Hid (∀ W : World, Calls Try.prog 8 #[.slice none 0 0] W fun e w' => e = .returned (.tuple #[.string ⟨#[]⟩, .int .i64 0]) ∧ Below W.heap.size W w')) :
    Calls Try.prog 5 #[.int .i64 kind, .int .i64 many] w fun e w' => e = .returned (.bool true) ∧ Below w.heap.size w w' := by
  go_enter Try.func5, Try.ntmps5
  go_wp2_with fail
  refine (awake_any _).mono ?_
  rintro e w1 ⟨rfl, hb1⟩
  have B1 := Lib.hid hb1
  clear hb1
  have CV1 := CV w1
  go_wp2_with fail
  refine (P.out _ _ (by simp)).mono ?_
  rintro e w2 ⟨rfl, hb2⟩
  have B2 := Lib.hid (B1.out.trans (((Below.refl _ w1).alloc (Nat.le_refl _) (.cells C 5)).trans (hb2.mono (by simp)) |>.mono B1.out.size))
  clear hb2 CV1
  go_wp2_with fail
  refine (P0.out _).mono ?_
  rintro e w3 ⟨rfl, hb3⟩
  have B3 := Lib.hid (bel2 B2.out hb3)
  clear hb3
  go_wp2_with (go_at_call 12; refine (num_any _ _).mono ?_; rintro e w9 ⟨rfl, rfl⟩)
  go_ret
  exact ⟨rfl, B3.out⟩
set_option maxHeartbeats 800000 in
theorem limits_far (kind many : Int) (m : Nat) (Z : ByteArray) (C : Array Value) (w : World) (hm : m ≤ 3) (hA : bits BinOp.and .i64 many 3 = (m : Int)) (hk0 : ¬ kind < 0) (hk : ¬ kind > 255) (h3 : ¬ m ≤ 2)
    (MK : ∀ W : World, (Instr.makeSlice 42 (.int .i64 (251 + (m : Int))) (.int .i64 (251 + (m : Int)))).run Try.prog W = .ok (.slice (some ⟨W.heap.size, 0, none⟩) (251 + m) (251 + m)) (W.alloc (.cells C 5)))
    (CV : ∀ W : World, (convert 42 9 (.slice (some ⟨W.heap.size, 0, none⟩) (251 + m) (251 + m))).run Try.prog (W.alloc (.cells C 5)) = .ok (.string Z) (W.alloc (.cells C 5)))
    (P : Hid (∀ (W : World) (n : Nat), W.heap.size = n → Calls Try.prog 8 #[.slice (some ⟨n, 0, none⟩) 1 1] (W.alloc (.cells #[.int .i64 kind, .string Z] 34)) fun e w' => e = .returned (.tuple #[.string ⟨#[]⟩, .int .i64 401]) ∧ Below W.heap.size W w'))
    (P0 : Hid (∀ W : World, Calls Try.prog 8 #[.slice none 0 0] W fun e w' => e = .returned (.tuple #[.string ⟨#[]⟩, .int .i64 0]) ∧ Below W.heap.size W w')) :
    Calls Try.prog 5 #[.int .i64 kind, .int .i64 many] w fun e w' => e = .returned (.bool true) ∧ Below w.heap.size w w' := by
  go_enter Try.func5, Try.ntmps5
  go_wp2_with fail
  refine (awake_any _).mono ?_
  rintro e w1 ⟨rfl, hb1⟩
  have B1 := Lib.hid hb1
  clear hb1
  have CV1 := CV w1
  go_wp2_with fail
  refine (P.out _ _ (by simp)).mono ?_
  rintro e w2 ⟨rfl, hb2⟩
  have B2 := Lib.hid (B1.out.trans (((Below.refl _ w1).alloc (Nat.le_refl _) (.cells C 5)).trans (hb2.mono (by simp)) |>.mono B1.out.size))
  clear hb2 CV1
  go_wp2_with fail
  refine (P0.out _).mono ?_
  rintro e w3 ⟨rfl, hb3⟩
  have B3 := Lib.hid (bel2 B2.out hb3)
  clear hb3
  go_wp2_with (go_at_call 12; refine (num_any _ _).mono ?_; rintro e w9 ⟨rfl, rfl⟩)
  go_ret
  exact ⟨ret_bool (a := !decide (251 + (m : Int) ≤ 253)) (by simp; omega), B3.out⟩
theorem walk_limits (kind many : Int) (w : World) (_ : (Lit.int .i64 kind).wf = true) (_ : (Lit.int .i64 many).wf = true) :
    Calls Try.prog 5 #[.int .i64 kind, .int .i64 many] w fun e w' => e = .returned (.bool true) ∧ Below w.heap.size w w' := by
  obtain ⟨m, hm⟩ : ∃ m : Nat, (m : Int) = many % 4 := ⟨(many % 4).toNat, by omega⟩
  have hA : bits BinOp.and .i64 many 3 = (m : Int) := by rw [i64_and3, hm]
  have hm3 : m ≤ 3 := by omega
  have hz : (zeros (251 + m)).length = 251 + m := by simp [zeros]
  have MK : ∀ W : World, (Instr.makeSlice 42 (.int .i64 (251 + (m : Int))) (.int .i64 (251 + (m : Int)))).run Try.prog W = .ok (.slice (some ⟨W.heap.size, 0, none⟩) (251 + m) (251 + m)) (W.alloc (.cells (Lib.byteCells (zeros (251 + m))).toArray 5)) := fun W => by
    have h := make_bytes (251 + m) (by omega) W
    rwa [show ((251 + m : Nat) : Int) = 251 + (m : Int) by omega] at h
  have CV : ∀ W : World, (convert 42 9 (.slice (some ⟨W.heap.size, 0, none⟩) (251 + m) (251 + m))).run Try.prog (W.alloc (.cells (Lib.byteCells (zeros (251 + m))).toArray 5)) = .ok (.string ⟨(zeros (251 + m)).toArray⟩) (W.alloc (.cells (Lib.byteCells (zeros (251 + m))).toArray 5)) := fun W => by
    have h := conv_new W (zeros (251 + m)) _ rfl
    rwa [hz] at h
  have P : ∀ (W : World) (n : Nat), W.heap.size = n → Calls Try.prog 8 #[.slice (some ⟨n, 0, none⟩) 1 1] (W.alloc (.cells #[.int .i64 kind, .string ⟨(zeros (251 + m)).toArray⟩] 34)) fun e w' => e = .returned (.tuple #[.string ⟨(Opt.put [(kind, zeros (251 + m))]).toArray⟩, .int .i64 (Opt.code [(kind, zeros (251 + m))])]) ∧ Below W.heap.size W w' := fun W n hn => by
    subst hn
    have h := oput_any _ [(kind, zeros (251 + m))] _ (reads_lit W [(kind, zeros (251 + m))] #[.int .i64 kind, .string ⟨(zeros (251 + m)).toArray⟩] rfl) (by simp)
    exact h.mono fun e w' ⟨h1, h2⟩ => ⟨h1, bel2 ((Below.refl _ _).alloc (Nat.le_refl _) _) h2⟩
  have P0 : ∀ W : World, Calls Try.prog 8 #[.slice none 0 0] W fun e w' => e = .returned (.tuple #[.string ⟨#[]⟩, .int .i64 0]) ∧ Below W.heap.size W w' := fun W => by
    have h := oput_any _ [] W (reads_nil W) (by simp)
    rwa [show Opt.code [] = 0 by decide +kernel, show Opt.put [] = [] by decide +kernel] at h
  have hc := code_one kind (zeros (251 + m)) (by omega)
  unfold Opt.put at P
  rw [hz] at hc
  by_cases h1 : kind < 0
  · rw [if_neg (by omega)] at hc
    rw [hc] at P
    exact limits_below kind many m _ _ w hm3 hA h1 MK CV (Lib.hid P) (Lib.hid P0)
  · by_cases h2 : kind > 255
    · rw [if_neg (by omega)] at hc
      rw [hc] at P
      exact limits_above kind many m _ _ w hm3 hA h1 h2 MK CV (Lib.hid P) (Lib.hid P0)
    · rw [if_pos (by omega)] at hc
      by_cases h3 : m ≤ 2
      · rw [if_pos (by omega)] at hc
        rw [hc] at P
        exact limits_good kind many m _ _ _ w hm3 hA h1 h2 h3 MK CV (Lib.hid P) (Lib.hid P0)
      · rw [if_neg (by omega)] at hc
        rw [hc] at P
        exact limits_far kind many m _ _ w hm3 hA h1 h2 h3 MK CV (Lib.hid P) (Lib.hid P0)
end Go.Proofs.Ytkbknmoheecplaa.O
