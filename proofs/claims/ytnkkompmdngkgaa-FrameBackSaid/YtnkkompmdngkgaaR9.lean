/-
  What every program of stage 3 answers that is one.
-/
import Derived.Test.YtnkkompmdngkgaaR8
namespace Go.Proofs.Ytnkkompmdngkgaa.R
open Go.RowKit
theorem inner (Y : List UInt8) : (ByteArray.mk ([126] ++ Y ++ [126]).toArray).extract 1 ((ByteArray.mk ([126] ++ Y ++ [126]).toArray).size - 1) = ⟨Y.toArray⟩ ∧ (ByteArray.mk ([126] ++ Y ++ [126]).toArray).size = Y.length + 2 := by
  constructor
  · apply ByteArray.ext; apply Array.toList_inj.1
    simp [ByteArray.data_extract, List.extract, ByteArray.size]
  · rw [sz]; simp
/-- A box stays while blocks are made. -/
theorem box_alloc {w a : World} {x y : Value} (h : a.cell? ⟨w.heap.size, 0, none⟩ = some x ∧ a.cell? ⟨w.heap.size, 1, none⟩ = some y ∧ w.heap.size < a.heap.size ∧ Below w.heap.size w a) (o : Obj) :
    (a.alloc o).cell? ⟨w.heap.size, 0, none⟩ = some x ∧ (a.alloc o).cell? ⟨w.heap.size, 1, none⟩ = some y ∧ w.heap.size < (a.alloc o).heap.size ∧ Below w.heap.size w (a.alloc o) :=
  box_kept h ((Below.refl _ a).alloc (Nat.le_refl _) o)
theorem awake3 : Frm.get [97, 98, 99] = ((0, []), 300) := by decide +kernel
theorem awake4 : Frm.put 2 [] 0 = ([], 303) := by decide +kernel
set_option maxHeartbeats 1600000 in
theorem awake_walk (U Y : ByteArray) (w : World) (h4 : 4 ≤ U.size) (h5 : U.size ≤ 5000) (hY : U.extract 1 (U.size - 1) = Y)
    (P : Hid (∀ w, Calls Try.prog 10 #[.agg #[.int .i64 49185, .string ⟨#[104, 105]⟩], .int .i64 0] w fun e w' => e = .returned (.tuple #[.string U, .int .i64 0]) ∧ Below w.heap.size w w'))
    (G : Hid (∀ w, Calls Try.prog 16 #[.string Y] w fun e w' => e = .returned (.tuple #[.agg #[.int .i64 49185, .string ⟨#[104, 105]⟩], .int .i64 0]) ∧ Below w.heap.size w w'))
    (G2 : Hid (∀ w, Calls Try.prog 16 #[.string ⟨#[97, 98, 99]⟩] w fun e w' => e = .returned (.tuple #[.agg #[.int .i64 0, .string ⟨#[]⟩], .int .i64 300]) ∧ Below w.heap.size w w'))
    (P2 : Hid (∀ w, Calls Try.prog 10 #[.agg #[.int .i64 2, .string ⟨#[]⟩], .int .i64 0] w fun e w' => e = .returned (.tuple #[.string ⟨#[]⟩, .int .i64 303]) ∧ Below w.heap.size w w')) :
    Calls Try.prog 13 #[] w fun e w' => e = .returned (.bool true) ∧ Below w.heap.size w w' := by
  have g1 : (1 : Int) ≤ (U.size : Int) - 1 := by omega
  have g2 : 1 ≤ U.size - 1 := by omega
  go_enter Try.func13, Try.ntmps13
  go_wp2_with fail
  refine (P.out _).mono ?_
  rintro e w1 ⟨rfl, hb1⟩
  have B1 := Lib.hid hb1
  clear hb1
  go_wp2_with (go_at_call 12; refine (num_any _ _).mono ?_; rintro e w9 ⟨rfl, rfl⟩)
  refine (G.out _).mono ?_
  rintro e w2 ⟨rfl, hb2⟩
  have B2 := Lib.hid (bel2 B1.out hb2)
  clear hb2
  go_wp2_with fail
  refine (G2.out _).mono ?_
  rintro e w3 ⟨rfl, hb3⟩
  have B3 := Lib.hid (box_kept (w := w2) (x := .int .i64 49185) (y := .string ⟨#[104, 105]⟩) ⟨by simp, by simp, by simp, (Below.refl _ _).alloc (Nat.le_refl _) _⟩ hb3)
  clear hb3
  go_wp2_with fail
  refine (P2.out _).mono ?_
  rintro e w4 ⟨rfl, hb4⟩
  have B4 := Lib.hid (box_kept (box_alloc B3.out _) hb4)
  clear hb4
  have k0 := B4.out.1
  have k1 := B4.out.2.1
  go_wp2_with (go_at_call 12; refine (num_any _ _).mono ?_; rintro e w9 ⟨rfl, rfl⟩)
  go_ret
  exact ⟨rfl, bel2 B2.out B4.out.2.2.2⟩
theorem get_awake : ∃ Y : List UInt8, (Frm.put 49185 [104, 105] 0) = ([126] ++ Y ++ [126], 0) ∧ Frm.get Y = ((49185, [104, 105]), 0) ∧ 2 ≤ Y.length ∧ Y.length ≤ 1000 := by
  have hg : Frm.good 49185 = true := by decide
  have hw := Frm.wire_length 0 49185 [104, 105]
  refine ⟨Frm.wire 0 49185 [104, 105], Frm.put_good _ _ _ (Frm.code_good _ _ hg (by decide)), Frm.get_wire _ _ _ hg (by decide), ?_, ?_⟩
  · simp at hw; omega
  · simp at hw; omega
theorem awake_any (w : World) : Calls Try.prog 13 #[] w fun e w' => e = .returned (.bool true) ∧ Below w.heap.size w w' := by
  obtain ⟨Y, e1, e2, e3, e4⟩ := get_awake
  have P := fun w => fput_any 49185 [104, 105] 0 w (by decide)
  have P2 := fun w => fput_any 2 [] 0 w (by decide)
  have G := fun w => fget_any Y w (by omega)
  have G2 := fun w => fget_any [97, 98, 99] w (by decide)
  rw [e1] at P
  rw [e2] at G
  rw [awake3] at G2
  rw [awake4] at P2
  obtain ⟨i1, i2⟩ := inner Y
  exact awake_walk _ _ w (by rw [i2]; omega) (by rw [i2]; omega) i1 (Lib.hid P) (Lib.hid G) (Lib.hid G2) (Lib.hid P2)
end Go.Proofs.Ytnkkompmdngkgaa.R
