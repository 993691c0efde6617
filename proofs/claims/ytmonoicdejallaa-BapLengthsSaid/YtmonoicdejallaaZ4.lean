/-
  Contracts: options behind a head (read), behind an answer (a response's get).
-/
import Derived.Test.YtmonoicdejallaaZ2
import Derived.Test.YtmonoicdejallaaO5
import Derived.Test.YtmonoicdejallaaOwnO
import Derived.Test.YtmonoicdejallaaBox2
import Derived.Deep.Onto
import Derived.Deep.DeepCutAuto
namespace Go.Proofs.Ytmonoicdejallaa.Z
open Go.RowKit
/-- A datagram by value, its options new, and a number beside it. -/
def BpPost (r : Bap.Bp × Int) (w : World) (e : Ending) (w' : World) : Prop := ∃ v, e = .returned (.tuple #[.agg #[.int .i64 r.1.1, .int .i64 r.1.2.1, .int .i64 r.1.2.2.1, v], .int .i64 r.2]) ∧ OwnsO w w' v r.1.2.2.2
set_option maxHeartbeats 800000 in
theorem read_bad (c i k : Int) (os : List Opt.Op) (b : ByteArray) (w : World) (hk : k ≠ 0)
    (G : Hid (∀ W, Calls Try.prog 35 #[.string b] W fun e w' => ∃ v, e = .returned (.tuple #[v, .int .i64 k]) ∧ OwnsO W w' v os)) :
    Calls Try.prog 25 #[.agg #[.int .i64 c, .int .i64 i], .string b] w fun e w' => e = .returned (.tuple #[.agg #[.int .i64 0, .int .i64 0, .int .i64 0, .slice none 0 0], .int .i64 900]) ∧ Below w.heap.size w w' := by
  have hq : (k != 0) = true := by simpa using hk
  clear hk
  have X1 := Lib.hid ((Box.new (w.alloc (.cells #[.int .i64 c, .int .i64 i] 49)) [.int .i64 0, .int .i64 0, .int .i64 0, .slice none 0 0] 24).at (n := w.heap.size + 1) (by simp))
  go_enter Try.func25, Try.ntmps25
  go_wp2_with fail
  refine (G.out _).mono ?_
  rintro e w4 ⟨v, rfl, ho⟩
  have hb4 := ho.2
  clear ho
  have hz4 : w.heap.size + 1 < w4.heap.size := (by have := hb4.size; simp at this; omega)
  obtain ⟨hc4, hf4⟩ := bcell hb4
  have Y1 := X1.out.below hb4
  have m0 := Y1 0 _ rfl
  have m1 := Y1 1 _ rfl
  have m2 := Y1 2 _ rfl
  have m3 := Y1 3 _ rfl
  clear Y1 hc4
  have HB := Lib.hid ((((Below.refl _ w).alloc (Nat.le_refl _) _).alloc (by simp) _).trans (hb4.mono (by simp; omega)))
  clear hb4
  go_wp2_with fail
  refine bodyPost_ret (v := .tuple #[.agg #[.int .i64 0, .int .i64 0, .int .i64 0, .slice none 0 0], .int .i64 900]) (by simp [results, Try.results25, go_sem, m0, m1, m2, m3]) rfl ⟨rfl, ?_⟩
  repeat (first | (with_reducible exact HB.out) | (refine Below.setCell ?_ ?_ _; rotate_left; (first | exact Nat.le_refl _ | exact Nat.le_succ _)))
set_option maxHeartbeats 800000 in
theorem read_opts (c i : Int) (os : List Opt.Op) (b : ByteArray) (w : World)
    (G : Hid (∀ W, Calls Try.prog 35 #[.string b] W fun e w' => ∃ v, e = .returned (.tuple #[v, .int .i64 0]) ∧ OwnsO W w' v os)) :
    Calls Try.prog 25 #[.agg #[.int .i64 c, .int .i64 i], .string b] w fun e w' => ∃ v, e = .returned (.tuple #[.agg #[.int .i64 c, .int .i64 i, .int .i64 0, v], .int .i64 0]) ∧ OwnsO w w' v os := by
  have X0 := Lib.hid ((Box.new w [.int .i64 c, .int .i64 i] 49).alloc (.cells #[.int .i64 0, .int .i64 0, .int .i64 0, .slice none 0 0] 24))
  have X1 := Lib.hid ((Box.new (w.alloc (.cells #[.int .i64 c, .int .i64 i] 49)) [.int .i64 0, .int .i64 0, .int .i64 0, .slice none 0 0] 24).at (n := w.heap.size + 1) (by simp))
  go_enter Try.func25, Try.ntmps25
  go_wp2_with fail
  refine (G.out _).mono ?_
  rintro e w4 ⟨v, rfl, ho⟩
  have hb4 := ho.2
  have hz4 : w.heap.size + 1 < w4.heap.size := (by have := hb4.size; simp at this; omega)
  have hz5 : w.heap.size < w4.heap.size := by omega
  obtain ⟨hc4, hf4⟩ := bcell hb4
  have A0 := Lib.hid (ho.above (b := w.heap.size) (by simp; omega))
  have A1 := Lib.hid (ho.above (b := w.heap.size + 1) (by simp))
  have HO := Lib.hid (ho.base (w := w) (((Below.refl _ w).alloc (Nat.le_refl _) _).alloc (by simp) _))
  have Y0 := X0.out.below hb4
  have Y1 := X1.out.below hb4
  have k0 := Y0 0 _ rfl
  have k1 := Y0 1 _ rfl
  have m0 := Y1 0 _ rfl
  have m1 := Y1 1 _ rfl
  have m2 := Y1 2 _ rfl
  have m3 := Y1 3 _ rfl
  obtain ⟨p, cap, rfl⟩ := ho.form2
  clear Y0 Y1 hc4 ho hb4
  go_wp2_with fail
  refine bodyPost_ret (v := .tuple #[.agg #[.int .i64 c, .int .i64 i, .int .i64 0, .slice p os.length cap], .int .i64 0]) (by simp [results, Try.results25, go_sem, m0, m1, m2, m3]) rfl ⟨_, rfl, ?_⟩
  repeat (first | (with_reducible exact HO.out) | (refine OwnsO.setCell ?_ ?_ ?_ _; rotate_left; (first | exact Nat.le_refl _ | exact Nat.le_succ _); (first | exact A0.out | exact A1.out)))
/-- The contract of read. -/
theorem read_any (c i : Int) (b : List UInt8) (w : World) (hb : b.length ≤ 9223372036854775807) :
    Calls Try.prog 25 #[.agg #[.int .i64 c, .int .i64 i], .string ⟨b.toArray⟩] w (BpPost (Bap.held c i 0 b) w) := by
  have G := fun W => O.oget_any b W hb
  unfold O.GetPost at G
  by_cases hg : (Opt.get b).2 = 0
  · rw [Bap.held_good _ _ _ _ hg]
    rw [hg] at G
    exact read_opts c i _ _ w (Lib.hid G)
  · rw [Bap.held_bad _ _ _ _ hg]
    refine (read_bad c i _ _ ⟨b.toArray⟩ w hg (Lib.hid G)).mono ?_
    rintro e w' ⟨rfl, h⟩
    exact ⟨_, rfl, World.ownsRow_nil _ _ _ _, h⟩
set_option maxHeartbeats 1600000 in
theorem rget_bad (c i a x y z k : Int) (os : List Opt.Op) (b : ByteArray) (w : World) (hk : k ≠ 0)
    (G : Hid (∀ W, Calls Try.prog 25 #[.agg #[.int .i64 c, .int .i64 i], .string b] W fun e w' => ∃ v, e = .returned (.tuple #[.agg #[.int .i64 x, .int .i64 y, .int .i64 z, v], .int .i64 k]) ∧ OwnsO W w' v os)) :
    Calls Try.prog 26 #[.agg #[.int .i64 c, .int .i64 i, .int .i64 a], .string b] w fun e w' => e = .returned (.tuple #[.agg #[.int .i64 0, .int .i64 0, .int .i64 0, .slice none 0 0], .int .i64 k]) ∧ Below w.heap.size w w' := by
  have hq : (k != 0) = true := by simpa using hk
  clear hk
  have X1 := Lib.hid ((Box.new (w.alloc (.cells #[.int .i64 c, .int .i64 i, .int .i64 a] 51)) [.int .i64 0, .int .i64 0, .int .i64 0, .slice none 0 0] 24).at (n := w.heap.size + 1) (by simp))
  go_enter Try.func26, Try.ntmps26
  go_wp2_with fail
  refine (G.out _).mono ?_
  rintro e w4 ⟨v, rfl, ho⟩
  have hb4 := ho.2
  obtain ⟨p, cap, rfl⟩ := ho.form2
  clear ho
  have hz4 : w.heap.size + 1 < w4.heap.size := (by have := hb4.size; simp at this; omega)
  have k4 := (Below.refl w4.heap.size w4).alloc (Nat.le_refl _) (.cells #[.int .i64 x, .int .i64 y, .int .i64 z, .slice p os.length cap] 24)
  have Y1 := (X1.out.below hb4).below k4
  have fz : ∀ o, (w4.alloc (.cells #[.int .i64 x, .int .i64 y, .int .i64 z, .slice p os.length cap] 24)).frozen? ⟨w.heap.size + 1, o, none⟩ = false := fun o => ((bcell k4).2 _ _ hz4).trans (((bcell hb4).2 _ _ (by simp)).trans (by simp [go_sem]))
  have HB := ((((Below.refl w.heap.size w).alloc (Nat.le_refl _) (.cells #[.int .i64 c, .int .i64 i, .int .i64 a] 51)).alloc (by simp) (.cells #[.int .i64 0, .int .i64 0, .int .i64 0, .slice none 0 0] 24)).trans (hb4.mono (by simp; omega))).alloc (by omega) (.cells #[.int .i64 x, .int .i64 y, .int .i64 z, .slice p os.length cap] 24)
  go_upto_region 2 with (fail)
  generalize w4.heap.size = N at *
  generalize w4.alloc (.cells #[.int .i64 x, .int .i64 y, .int .i64 z, .slice p os.length cap] 24) = w5 at *
  have HB := Lib.hid HB
  have m0 := Y1 0 _ rfl
  have m1 := Y1 1 _ rfl
  have m2 := Y1 2 _ rfl
  have m3 := Y1 3 _ rfl
  clear Y1 hb4 k4
  go_wp2_with fail
  refine bodyPost_ret (v := .tuple #[.agg #[.int .i64 0, .int .i64 0, .int .i64 0, .slice none 0 0], .int .i64 k]) (by simp [results, Try.results26, go_sem, m0, m1, m2, m3]) rfl ⟨rfl, ?_⟩
  repeat (first | (with_reducible exact HB.out) | (refine Below.setCell ?_ ?_ _; rotate_left; (first | exact Nat.le_refl _ | exact Nat.le_succ _)))
set_option maxHeartbeats 1600000 in
theorem rget_opts (c i a : Int) (os : List Opt.Op) (b : ByteArray) (w : World)
    (G : Hid (∀ W, Calls Try.prog 25 #[.agg #[.int .i64 c, .int .i64 i], .string b] W fun e w' => ∃ v, e = .returned (.tuple #[.agg #[.int .i64 c, .int .i64 i, .int .i64 0, v], .int .i64 0]) ∧ OwnsO W w' v os)) :
    Calls Try.prog 26 #[.agg #[.int .i64 c, .int .i64 i, .int .i64 a], .string b] w fun e w' => ∃ v, e = .returned (.tuple #[.agg #[.int .i64 c, .int .i64 i, .int .i64 a, v], .int .i64 0]) ∧ OwnsO w w' v os := by
  have X0 := Lib.hid ((Box.new w [.int .i64 c, .int .i64 i, .int .i64 a] 51).alloc (.cells #[.int .i64 0, .int .i64 0, .int .i64 0, .slice none 0 0] 24))
  have X1 := Lib.hid ((Box.new (w.alloc (.cells #[.int .i64 c, .int .i64 i, .int .i64 a] 51)) [.int .i64 0, .int .i64 0, .int .i64 0, .slice none 0 0] 24).at (n := w.heap.size + 1) (by simp))
  go_enter Try.func26, Try.ntmps26
  go_wp2_with fail
  refine (G.out _).mono ?_
  rintro e w4 ⟨v, rfl, ho⟩
  obtain ⟨p, cap, rfl⟩ := ho.form2
  have hb4 := ho.2
  have hz4 : w.heap.size + 1 < w4.heap.size := (by have := hb4.size; simp at this; omega)
  have k4 := (Below.refl w4.heap.size w4).alloc (Nat.le_refl _) (.cells #[.int .i64 c, .int .i64 i, .int .i64 0, .slice p os.length cap] 24)
  have Y0 := (X0.out.below hb4).below k4
  have Y1 := (X1.out.below hb4).below k4
  have Z4 := Box.new w4 [.int .i64 c, .int .i64 i, .int .i64 0, .slice p os.length cap] 24
  have fz : ∀ o, (w4.alloc (.cells #[.int .i64 c, .int .i64 i, .int .i64 0, .slice p os.length cap] 24)).frozen? ⟨w.heap.size + 1, o, none⟩ = false := fun o => ((bcell k4).2 _ _ hz4).trans (((bcell hb4).2 _ _ (by simp)).trans (by simp [go_sem]))
  have fz4 : ∀ o, (w4.alloc (.cells #[.int .i64 c, .int .i64 i, .int .i64 0, .slice p os.length cap] 24)).frozen? ⟨w4.heap.size, o, none⟩ = false := fun o => new_frozen w4 _ _ _ o rfl
  have A1 := Lib.hid (ho.above (b := w.heap.size + 1) (by simp))
  have A2 : ∀ k, (Value.slice p os.length cap).ownBlock = some k → k < w4.heap.size := fun k hk => (ho.1.lt k hk).2
  have HO := (ho.base (w := w) (((Below.refl _ w).alloc (Nat.le_refl _) _).alloc (by simp) _)).below k4
  go_upto_region 2 with (fail)
  generalize w4.alloc (.cells #[.int .i64 c, .int .i64 i, .int .i64 0, .slice p os.length cap] 24) = w5 at *
  generalize w4.heap.size = N at *
  have HO := Lib.hid HO
  have A2 := Lib.hid A2
  have k2 := Y0 2 _ rfl
  have m0 := Y1 0 _ rfl
  have m1 := Y1 1 _ rfl
  have m2 := Y1 2 _ rfl
  have m3 := Y1 3 _ rfl
  have n0 := Z4 0 _ rfl
  have n1 := Z4 1 _ rfl
  have n2 := Z4 2 _ rfl
  have n3 := Z4 3 _ rfl
  clear Y0 Y1 Z4 ho hb4 k4
  have hN : w.heap.size ≤ N := by omega
  go_wp2_with fail
  refine bodyPost_ret (v := .tuple #[.agg #[.int .i64 c, .int .i64 i, .int .i64 a, .slice p os.length cap], .int .i64 0]) (by simp [results, Try.results26, go_sem, m0, m1, m2, m3]) rfl ⟨_, rfl, ?_⟩
  repeat (first | (with_reducible exact HO.out) | (refine OwnsO.setCell ?_ (Nat.le_succ _) A1.out _) | (refine OwnsO.setOther ?_ hN A2.out _))
/-- The contract of a response's get. -/
theorem rget_any (c i a : Int) (b : List UInt8) (w : World) (hb : b.length ≤ 9223372036854775807) :
    Calls Try.prog 26 #[.agg #[.int .i64 c, .int .i64 i, .int .i64 a], .string ⟨b.toArray⟩] w (BpPost (Bap.held c i a b) w) := by
  have G := fun W => read_any c i b W hb
  by_cases hg : (Opt.get b).2 = 0
  · rw [Bap.held_good _ _ _ _ hg] at G ⊢
    exact rget_opts c i a _ _ w (Lib.hid G)
  · rw [Bap.held_bad _ _ _ _ hg] at G ⊢
    refine (rget_bad c i a _ _ _ 900 _ ⟨b.toArray⟩ w (by decide) (Lib.hid G)).mono ?_
    rintro e w' ⟨rfl, h⟩
    exact ⟨_, rfl, World.ownsRow_nil _ _ _ _, h⟩
end Go.Proofs.Ytmonoicdejallaa.Z
