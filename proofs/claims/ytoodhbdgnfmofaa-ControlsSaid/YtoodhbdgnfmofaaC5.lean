/-
  Contract of the program's withBody.
-/
import Derived.Test.YtoodhbdgnfmofaaC1
import Derived.Test.YtoodhbdgnfmofaaO5
import Derived.Deep.Onto
namespace Go.Proofs.Ytoodhbdgnfmofaa
open Go.RowKit
theorem OwnsO.base {w w1 W : World} {v : Value} {os : List Opt.Op} (h : OwnsO w1 W v os) (k : Below w.heap.size w w1) : OwnsO w W v os := ⟨h.1.mono k.size, bel2 k h.2⟩
theorem grown_cell (w : World) (a : Addr) (u : Value) : w.grownBy (w.setCell a u) (some a.block) :=
  ⟨rfl, rfl, rfl, by simp, fun k _ hk => Below.heap_setCell w a u k (fun e => hk (by rw [e]))⟩
theorem OwnsO.setCell {w W : World} {v : Value} {os : List Opt.Op} (h : OwnsO w W v os) {p : Addr} (hp : w.heap.size ≤ p.block) (hne : ∀ k, v.ownBlock = some k → p.block < k) (u : Value) : OwnsO w (W.setCell p u) v os := by
  refine ⟨h.1.kept (grown_cell W p u) ?_, h.2.setCell hp u⟩
  cases hv : v.ownBlock with
  | none => exact .inl rfl
  | some k =>
    refine .inr fun e => ?_
    have := hne k hv
    simp only [Option.some.injEq] at e
    omega
/-- The blocks of a slice of a later call's own lie behind. -/
theorem OwnsO.above {w1 W : World} {v : Value} {os : List Opt.Op} (h : OwnsO w1 W v os) {b : Nat} (hb : b < w1.heap.size) : ∀ k, v.ownBlock = some k → b < k := fun k hk => Nat.lt_of_lt_of_le hb (h.1.lt k hk).1
theorem OwnsO.form2 {w W : World} {v : Value} {os : List Opt.Op} (h : OwnsO w W v os) : ∃ p cap, v = .slice p os.length cap := by
  obtain ⟨p, cap, _, _, h, _⟩ := h.reads.at
  exact ⟨p, cap, h⟩
namespace C
/-- A packet by value, its options new, and a number beside it. -/
def PkPost (r : Ctl.Pk × Int) (w : World) (e : Ending) (w' : World) : Prop := ∃ v, e = .returned (.tuple #[.agg #[.int .i64 r.1.1, .int .i64 r.1.2.1, v, .string ⟨r.1.2.2.2.toArray⟩], .int .i64 r.2]) ∧ OwnsO w w' v r.1.2.2.1
set_option maxHeartbeats 800000 in
theorem with_data (c i : Int) (b : ByteArray) (w : World)
    (C : Hid (∀ W, Calls Try.prog 31 #[.int .i64 c] W fun e w' => e = .returned (.bool false) ∧ W = w'))
    (K : Hid (∀ W, Calls Try.prog 32 #[.string b] W fun e w' => e = .returned (.string b) ∧ Below W.heap.size W w')) :
    Calls Try.prog 24 #[.agg #[.int .i64 c, .int .i64 i, .slice none 0 0, .string ⟨#[]⟩], .string b] w fun e w' => e = .returned (.tuple #[.agg #[.int .i64 c, .int .i64 i, .slice none 0 0, .string b], .int .i64 0]) ∧ Below w.heap.size w w' := by
  have X0 := Lib.hid ((Box.new w [.int .i64 c, .int .i64 i, .slice none 0 0, .string ⟨#[]⟩] 24).alloc (.cells #[.int .i64 0, .int .i64 0, .slice none 0 0, .string ⟨#[]⟩] 24))
  have X1 := Lib.hid ((Box.new (w.alloc (.cells #[.int .i64 c, .int .i64 i, .slice none 0 0, .string ⟨#[]⟩] 24)) [.int .i64 0, .int .i64 0, .slice none 0 0, .string ⟨#[]⟩] 24).at (n := w.heap.size + 1) (by simp))
  go_enter Try.func24, Try.ntmps24
  go_wp2_with fail
  refine (C.out _).mono ?_
  rintro e w1 ⟨rfl, rfl⟩
  go_wp2_with fail
  refine (K.out _).mono ?_
  rintro e w4 ⟨rfl, hb4⟩
  have hz4 : w.heap.size + 1 < w4.heap.size := (by have := hb4.size; simp at this; omega)
  have hz5 : w.heap.size < w4.heap.size := by omega
  obtain ⟨hc4, hf4⟩ := bcell hb4
  have Y0 := X0.out.below hb4
  have Y1 := X1.out.below hb4
  have k0 := Y0 0 _ rfl
  have k1 := Y0 1 _ rfl
  have k2 := Y0 2 _ rfl
  have k3 := Y0 3 _ rfl
  have m0 := Y1 0 _ rfl
  have m1 := Y1 1 _ rfl
  have m2 := Y1 2 _ rfl
  have m3 := Y1 3 _ rfl
  clear Y0 Y1 hc4
  have HB := Lib.hid ((((Below.refl _ w).alloc (Nat.le_refl _) _).alloc (by simp) _).trans (hb4.mono (by simp; omega)))
  clear hb4
  go_wp2_with fail
  refine bodyPost_ret (v := .tuple #[.agg #[.int .i64 c, .int .i64 i, .slice none 0 0, .string b], .int .i64 0]) (by simp [results, Try.results24, go_sem, m0, m1, m2, m3]) rfl ⟨rfl, ?_⟩
  repeat (first | (with_reducible exact HB.out) | (refine Below.setCell ?_ ?_ _; rotate_left; (first | exact Nat.le_refl _ | exact Nat.le_succ _)))
set_option maxHeartbeats 800000 in
theorem with_bad (c i k : Int) (os : List Opt.Op) (b : ByteArray) (w : World) (hk : k ≠ 0)
    (C : Hid (∀ W, Calls Try.prog 31 #[.int .i64 c] W fun e w' => e = .returned (.bool true) ∧ W = w'))
    (G : Hid (∀ W, Calls Try.prog 33 #[.string b] W fun e w' => ∃ v, e = .returned (.tuple #[v, .int .i64 k]) ∧ OwnsO W w' v os)) :
    Calls Try.prog 24 #[.agg #[.int .i64 c, .int .i64 i, .slice none 0 0, .string ⟨#[]⟩], .string b] w fun e w' => e = .returned (.tuple #[.agg #[.int .i64 0, .int .i64 0, .slice none 0 0, .string ⟨#[]⟩], .int .i64 502]) ∧ Below w.heap.size w w' := by
  have hq : (k != 0) = true := by simpa using hk
  clear hk
  have X0 := Lib.hid ((Box.new w [.int .i64 c, .int .i64 i, .slice none 0 0, .string ⟨#[]⟩] 24).alloc (.cells #[.int .i64 0, .int .i64 0, .slice none 0 0, .string ⟨#[]⟩] 24))
  have X1 := Lib.hid ((Box.new (w.alloc (.cells #[.int .i64 c, .int .i64 i, .slice none 0 0, .string ⟨#[]⟩] 24)) [.int .i64 0, .int .i64 0, .slice none 0 0, .string ⟨#[]⟩] 24).at (n := w.heap.size + 1) (by simp))
  go_enter Try.func24, Try.ntmps24
  go_wp2_with fail
  refine (C.out _).mono ?_
  rintro e w1 ⟨rfl, rfl⟩
  go_wp2_with fail
  refine (G.out _).mono ?_
  rintro e w4 ⟨v, rfl, ho⟩
  have hb4 := ho.2
  clear ho
  have hz4 : w.heap.size + 1 < w4.heap.size := (by have := hb4.size; simp at this; omega)
  obtain ⟨hc4, hf4⟩ := bcell hb4
  have Y1 := X1.out.below hb4
  have m0 := Y1 0 _ rfl
  have m1 := Y1 1 _ rfl
  have m2 := Y1 2 _ rfl
  have m3 := Y1 3 _ rfl
  clear Y1 hc4
  have HB := Lib.hid ((((Below.refl _ w).alloc (Nat.le_refl _) _).alloc (by simp) _).trans (hb4.mono (by simp; omega)))
  clear hb4
  go_wp2_with fail
  refine bodyPost_ret (v := .tuple #[.agg #[.int .i64 0, .int .i64 0, .slice none 0 0, .string ⟨#[]⟩], .int .i64 502]) (by simp [results, Try.results24, go_sem, m0, m1, m2, m3]) rfl ⟨rfl, ?_⟩
  repeat (first | (with_reducible exact HB.out) | (refine Below.setCell ?_ ?_ _; rotate_left; (first | exact Nat.le_refl _ | exact Nat.le_succ _)))
set_option maxHeartbeats 800000 in
theorem with_opts (c i : Int) (os : List Opt.Op) (b : ByteArray) (w : World)
    (C : Hid (∀ W, Calls Try.prog 31 #[.int .i64 c] W fun e w' => e = .returned (.bool true) ∧ W = w'))
    (G : Hid (∀ W, Calls Try.prog 33 #[.string b] W fun e w' => ∃ v, e = .returned (.tuple #[v, .int .i64 0]) ∧ OwnsO W w' v os)) :
    Calls Try.prog 24 #[.agg #[.int .i64 c, .int .i64 i, .slice none 0 0, .string ⟨#[]⟩], .string b] w fun e w' => ∃ v, e = .returned (.tuple #[.agg #[.int .i64 c, .int .i64 i, v, .string ⟨#[]⟩], .int .i64 0]) ∧ OwnsO w w' v os := by
  have X0 := Lib.hid ((Box.new w [.int .i64 c, .int .i64 i, .slice none 0 0, .string ⟨#[]⟩] 24).alloc (.cells #[.int .i64 0, .int .i64 0, .slice none 0 0, .string ⟨#[]⟩] 24))
  have X1 := Lib.hid ((Box.new (w.alloc (.cells #[.int .i64 c, .int .i64 i, .slice none 0 0, .string ⟨#[]⟩] 24)) [.int .i64 0, .int .i64 0, .slice none 0 0, .string ⟨#[]⟩] 24).at (n := w.heap.size + 1) (by simp))
  go_enter Try.func24, Try.ntmps24
  go_wp2_with fail
  refine (C.out _).mono ?_
  rintro e w1 ⟨rfl, rfl⟩
  go_wp2_with fail
  refine (G.out _).mono ?_
  rintro e w4 ⟨v, rfl, ho⟩
  have hb4 := ho.2
  have hz4 : w.heap.size + 1 < w4.heap.size := (by have := hb4.size; simp at this; omega)
  have hz5 : w.heap.size < w4.heap.size := by omega
  obtain ⟨hc4, hf4⟩ := bcell hb4
  have A0 := Lib.hid (ho.above (b := w.heap.size) (by simp; omega))
  have A1 := Lib.hid (ho.above (b := w.heap.size + 1) (by simp))
  have HO := Lib.hid (ho.base (w := w) (((Below.refl _ w).alloc (Nat.le_refl _) _).alloc (by simp) _))
  have Y0 := X0.out.below hb4
  have Y1 := X1.out.below hb4
  have k0 := Y0 0 _ rfl
  have k1 := Y0 1 _ rfl
  have k2 := Y0 2 _ rfl
  have k3 := Y0 3 _ rfl
  have m0 := Y1 0 _ rfl
  have m1 := Y1 1 _ rfl
  have m2 := Y1 2 _ rfl
  have m3 := Y1 3 _ rfl
  obtain ⟨p, cap, rfl⟩ : ∃ p cap, v = .slice p os.length cap := by
    obtain ⟨p, cap, _, _, h, _⟩ := ho.reads.at
    exact ⟨p, cap, h⟩
  clear Y0 Y1 hc4 ho hb4
  go_wp2_with fail
  refine bodyPost_ret (v := .tuple #[.agg #[.int .i64 c, .int .i64 i, .slice p os.length cap, .string ⟨#[]⟩], .int .i64 0]) (by simp [results, Try.results24, go_sem, m0, m1, m2, m3]) rfl ⟨_, rfl, ?_⟩
  repeat (first | (with_reducible exact HO.out) | (refine OwnsO.setCell ?_ ?_ ?_ _; rotate_left; (first | exact Nat.le_refl _ | exact Nat.le_succ _); (first | exact A0.out | exact A1.out)))
/-- The contract of withBody. -/
theorem with_any (c i : Int) (b : List UInt8) (w : World) (hb : b.length ≤ 281474976710656) :
    Calls Try.prog 24 #[.agg #[.int .i64 c, .int .i64 i, .slice none 0 0, .string ⟨#[]⟩], .string ⟨b.toArray⟩] w (PkPost (Ctl.held c i b) w) := by
  have C := fun W => configures_any c W
  cases hc : Ctl.conf c
  · rw [hc] at C
    rw [Ctl.held_data _ _ _ hc]
    refine (with_data c i ⟨b.toArray⟩ w (Lib.hid C) (Lib.hid fun W => clone_any _ W (by rw [sz]; exact hb))).mono ?_
    rintro e w' ⟨rfl, h⟩
    exact ⟨_, rfl, World.ownsRow_nil _ _ _ _, h⟩
  · rw [hc] at C
    have G := fun W => O.oget_any b W (by omega)
    by_cases hg : (Opt.get b).2 = 0
    · rw [Ctl.held_conf _ _ _ hc hg]
      unfold O.GetPost at G
      rw [hg] at G
      exact with_opts c i _ _ w (Lib.hid C) (Lib.hid G)
    · rw [Ctl.held_bad _ _ _ hc hg]
      refine (with_bad c i _ _ ⟨b.toArray⟩ w hg (Lib.hid C) (Lib.hid G)).mono ?_
      rintro e w' ⟨rfl, h⟩
      exact ⟨_, rfl, World.ownsRow_nil _ _ _ _, h⟩
end C
end Go.Proofs.Ytoodhbdgnfmofaa
