/-
  The walk of the law of an answer's parts.
-/
import Derived.Test.YtnkcplaggiopmaaDoorDgA
namespace Go.Proofs.YtnkcplaggiopmaaDoor.Dg
open Go.RowKit
set_option maxHeartbeats 1600000 in
theorem chaps_walk (id : Int) (a b t R : List UInt8) (y : UInt8) (S : ByteArray) (w : World) (hz : S.size = 16) (hi : bits .and .i64 id 255 = (y.toNat : Int))
    (hc : ∀ W : World, (convert 26 9 (.slice (some ⟨W.heap.size, 0, none⟩) 1 1)).run Tryd.prog (W.alloc (.cells #[.int .u8 ((y.toNat : Int) % 256)] 5)) = .ok (.string ⟨[y].toArray⟩) (W.alloc (.cells #[.int .u8 ((y.toNat : Int) % 256)] 5)))
    (s1 : Sums [y] a R) (s2 : Sums R b t) (T : Hid (Tab w))
    (C : Hid (∀ W, Below w.heap.size w W → Calls Tryd.prog 10 #[.int .i64 id, .string ⟨a.toArray⟩, .string ⟨b.toArray⟩] W fun e w' => e = .returned (.string S) ∧ Below W.heap.size W w'))
    (D : Hid (∀ W, Below w.heap.size w W → Calls Tryd.prog 10 #[.int .i64 (y.toNat : Int), .string ⟨a.toArray⟩, .string ⟨b.toArray⟩] W fun e w' => e = .returned (.string S) ∧ Below W.heap.size W w'))
    (O : Hid (∀ W, Below w.heap.size w W → Calls Tryd.prog 8 #[.string ⟨t.toArray⟩] W fun e w' => e = .returned (.string S) ∧ Below W.heap.size W w')) :
    Calls Tryd.prog 5 #[.int .i64 id, .string ⟨a.toArray⟩, .string ⟨b.toArray⟩] w fun e w' => e = .returned (.bool true) ∧ Below w.heap.size w w' := by
  have q16 : ((S.size : Int) == 16) = true := by rw [beq_iff_eq]; omega
  go_enter Tryd.func5, Tryd.ntmps5
  go_wp2_with fail
  refine (awake_any _ T).mono ?_
  rintro e w1 ⟨rfl, hb1⟩
  have B1 := Lib.hid hb1
  clear hb1
  go_wp2_with fail
  refine (C.out _ B1.out).mono ?_
  rintro e w2 ⟨rfl, hb2⟩
  have B2 := Lib.hid (bel2 B1.out hb2)
  have B3 := Lib.hid (bel2 B2.out ((Below.refl w2.heap.size w2).alloc (Nat.le_refl _) (.cells #[.int .u8 ((y.toNat : Int) % 256)] 5)))
  have hc2 := hc w2
  clear hb2 hc
  go_wp2_with (first | (go_at_call 8; refine (O.out _ B3.out).mono ?_; rintro e w4 ⟨rfl, hb4⟩; have B4 := Lib.hid (bel2 B3.out hb4); clear hb4) | (go_at_call 10; refine (D.out _ B4.out).mono ?_; rintro e w5 ⟨rfl, hb5⟩; have B5 := Lib.hid (bel2 B4.out hb5); clear hb5))
  go_ret
  exact ⟨rfl, B5.out⟩
theorem walk_chaps (id : Int) (a b : ByteArray) (w : World) (_ : (Lit.int .i64 id).wf = true) (ha : a.size ≤ 140737488351232) (hb : b.size ≤ 140737488351232) (T : Tab w) :
    Calls Tryd.prog 5 #[.int .i64 id, .string a, .string b] w fun e w' => e = .returned (.bool true) ∧ Below w.heap.size w w' := by
  obtain ⟨p, rfl, h2⟩ := listed a
  obtain ⟨q, rfl, h3⟩ := listed b
  have hi := i64_and255 id
  obtain ⟨y, hy⟩ : ∃ y : UInt8, y = UInt8.ofNat (id % 256).toNat := ⟨_, rfl⟩
  have hy2 : id % 256 = (y.toNat : Int) := by rw [hy]; simp; omega
  rw [hy2] at hi
  have hy3 := y.toNat_lt
  have hcell : (#[.int .u8 ((y.toNat : Int) % 256)] : Array Value) = (Lib.byteCells [y]).toArray := by
    rw [show (y.toNat : Int) % 256 = (y.toNat : Int) by omega]
    rfl
  have hP : Dig.parts id p q = [y] ++ p ++ q := by unfold Dig.parts; rw [hy]
  have hP2 : Dig.parts (y.toNat : Int) p q = [y] ++ p ++ q := by
    unfold Dig.parts
    rw [show (y.toNat : Int) % 256 = (y.toNat : Int) by omega]
    simp
  refine chaps_walk id p q ([y] ++ p ++ q) ([y] ++ p) y ⟨(Dig.md5 ([y] ++ p ++ q)).toArray⟩ w (by rw [sz, Dig.md5_length]) hi (fun W => ?_) (sums [y] p (by simp; omega)) (sums ([y] ++ p) q (by simp; omega)) (Lib.hid T) (Lib.hid fun W hb => ?_) (Lib.hid fun W hb => ?_) (Lib.hid fun W hb => of_any _ W (by simp; omega) (Lib.hid (T.below hb)))
  · have h := conv_new W [y] _ hcell
    rwa [List.length_singleton] at h
  · rw [← hP]
    exact chap_any id p q W (by omega) (Lib.hid (T.below hb))
  · rw [← hP2]
    exact chap_any _ p q W (by omega) (Lib.hid (T.below hb))
end Go.Proofs.YtnkcplaggiopmaaDoor.Dg
