/-
  The walk of the law of where a secret ends.
-/
import Derived.Test.YtnkcplaggiopmaaDoorDgA
import Derived.Test.YtnkcplaggiopmaaDoorMods
import Derived.Deep.RegionHeld
namespace Go.Proofs.YtnkcplaggiopmaaDoor.Dg
open Go.RowKit
set_option maxRecDepth 100000 in
set_option maxHeartbeats 3200000 in
theorem parts_walk (p q t u v T : List UInt8) (cut : Int) (k m : Nat) (A S : ByteArray) (w : World) (hm : m ≤ 281474976702464) (hk : m ≠ 0 → wrap64 ((IntKind.u64.wrap cut).tmod ((m : Int) + 1)) = (k : Int)) (hk0 : m = 0 → k = 0) (hkm : k ≤ m)
    (zt : (ByteArray.mk t.toArray).size = m) (x1 : (ByteArray.mk t.toArray).extract 0 k = ⟨u.toArray⟩) (x2 : (ByteArray.mk t.toArray).extract k m = ⟨v.toArray⟩)
    (s1 : Sums p q t) (s2 : Sums u v t) (s3 : Sums [65] t T) (TB : Hid (Tab w))
    (O : Hid (∀ W, Below w.heap.size w W → Calls Tryd.prog 8 #[.string ⟨t.toArray⟩] W fun e w' => e = .returned (.string A) ∧ Below W.heap.size W w'))
    (P : Hid (∀ W, Below w.heap.size w W → Calls Tryd.prog 8 #[.string ⟨T.toArray⟩] W fun e w' => e = .returned (.string S) ∧ Below W.heap.size W w'))
    (C : Hid (∀ W, Below w.heap.size w W → Calls Tryd.prog 10 #[.int .i64 65, .string ⟨p.toArray⟩, .string ⟨q.toArray⟩] W fun e w' => e = .returned (.string S) ∧ Below W.heap.size W w'))
    (D : Hid (∀ W, Below w.heap.size w W → Calls Tryd.prog 10 #[.int .i64 65, .string ⟨u.toArray⟩, .string ⟨v.toArray⟩] W fun e w' => e = .returned (.string S) ∧ Below W.heap.size W w'))
    (O0 : Hid (m = 0 → ∀ W, Below w.heap.size w W → Calls Tryd.prog 8 #[.string ByteArray.empty] W fun e w' => e = .returned (.string A) ∧ Below W.heap.size W w'))
    (D0 : Hid (m = 0 → ∀ W, Below w.heap.size w W → Calls Tryd.prog 10 #[.int .i64 65, .string ByteArray.empty, .string ByteArray.empty] W fun e w' => e = .returned (.string S) ∧ Below W.heap.size W w')) :
    Calls Tryd.prog 7 #[.string ⟨p.toArray⟩, .string ⟨q.toArray⟩, .int .i64 cut] w fun e w' => e = .returned (.bool true) ∧ Below w.heap.size w w' := by
  go_enter Tryd.func7, Tryd.ntmps7
  go_wp2_with fail
  refine (awake_any _ TB).mono ?_
  rintro e w1 ⟨rfl, hb1⟩
  have B1 := Lib.hid hb1
  clear hb1
  by_cases h0 : m = 0
  · have hk2 := hk0 h0
    have O1 := Lib.hid (O0.out h0)
    have D1 := Lib.hid (D0.out h0)
    clear O0 D0
    subst h0 hk2
    clear hk hk0 hkm hm
    go_wp2_with fail
    go_region_held (fun a => Below w.heap.size w a) (first | assumption | exact B1.out.drew) (first | (go_at_call 8; with_reducible refine (O1.out _ (by assumption)).mono ?_; rintro e w4 ⟨rfl, hb4⟩; have hS4 : Below w.heap.size w w4 := bel2 (by assumption) hb4; clear hb4) | (go_at_call 10; with_reducible refine (D1.out _ (by assumption)).mono ?_; rintro e w4 ⟨rfl, hb4⟩; have hS4 : Below w.heap.size w w4 := bel2 (by assumption) hb4; clear hb4) | (go_at_call 8; with_reducible refine (O.out _ (by assumption)).mono ?_; rintro e w4 ⟨rfl, hb4⟩; have hS4 : Below w.heap.size w w4 := bel2 (by assumption) hb4; clear hb4) | (go_at_call 8; with_reducible refine (P.out _ (by assumption)).mono ?_; rintro e w4 ⟨rfl, hb4⟩; have hS4 : Below w.heap.size w w4 := bel2 (by assumption) hb4; clear hb4) | (go_at_call 10; with_reducible refine (C.out _ (by assumption)).mono ?_; rintro e w4 ⟨rfl, hb4⟩; have hS4 : Below w.heap.size w w4 := bel2 (by assumption) hb4; clear hb4) | (go_at_call 10; with_reducible refine (D.out _ (by assumption)).mono ?_; rintro e w4 ⟨rfl, hb4⟩; have hS4 : Below w.heap.size w w4 := bel2 (by assumption) hb4; clear hb4) | (go_at_call 14; refine (num_any _ _).mono ?_; rintro e w9 ⟨rfl, rfl⟩))
    all_goals go_wp2_with fail
    all_goals go_ret
    all_goals exact ⟨rfl, by assumption⟩
  · have hk2 := hk h0
    have h1 : 0 < m := by omega
    clear hk hk0 h0
    go_wp2_with fail
    go_region_held (fun a => Below w.heap.size w a) (first | assumption | exact B1.out.drew) (first | (go_at_call 8; with_reducible refine (O.out _ (by assumption)).mono ?_; rintro e w4 ⟨rfl, hb4⟩; have hS4 : Below w.heap.size w w4 := bel2 (by assumption) hb4; clear hb4) | (go_at_call 8; with_reducible refine (P.out _ (by assumption)).mono ?_; rintro e w4 ⟨rfl, hb4⟩; have hS4 : Below w.heap.size w w4 := bel2 (by assumption) hb4; clear hb4) | (go_at_call 10; with_reducible refine (C.out _ (by assumption)).mono ?_; rintro e w4 ⟨rfl, hb4⟩; have hS4 : Below w.heap.size w w4 := bel2 (by assumption) hb4; clear hb4) | (go_at_call 10; with_reducible refine (D.out _ (by assumption)).mono ?_; rintro e w4 ⟨rfl, hb4⟩; have hS4 : Below w.heap.size w w4 := bel2 (by assumption) hb4; clear hb4) | (go_at_call 14; refine (num_any _ _).mono ?_; rintro e w9 ⟨rfl, rfl⟩))
    all_goals go_wp2_with fail
    all_goals go_ret
    all_goals exact ⟨rfl, by assumption⟩
theorem empty_eq : ByteArray.empty = ⟨([] : List UInt8).toArray⟩ := rfl
theorem walk_parts (a b : ByteArray) (cut : Int) (w : World) (ha : a.size ≤ 140737488351232) (hb : b.size ≤ 140737488351232) (_ : (Lit.int .i64 cut).wf = true) (T : Tab w) :
    Calls Tryd.prog 7 #[.string a, .string b, .int .i64 cut] w fun e w' => e = .returned (.bool true) ∧ Below w.heap.size w w' := by
  obtain ⟨p, rfl, h2⟩ := listed a
  obtain ⟨q, rfl, h3⟩ := listed b
  have hm : (p ++ q).length = p.length + q.length := List.length_append
  obtain ⟨k, hk, hkm, hk0⟩ : ∃ k : Nat, ((p ++ q).length ≠ 0 → wrap64 ((IntKind.u64.wrap cut).tmod (((p ++ q).length : Int) + 1)) = (k : Int)) ∧ k ≤ (p ++ q).length ∧ ((p ++ q).length = 0 → k = 0) := by
    obtain ⟨k, h, hl⟩ := by_many cut (((p ++ q).length : Int) + 1) (by omega) (by omega)
    by_cases h0 : (p ++ q).length = 0
    · exact ⟨0, fun h => absurd h0 h, Nat.zero_le _, fun _ => rfl⟩
    · exact ⟨k, fun _ => h, by omega, fun h => absurd h h0⟩
  have h65 : ∀ u v : List UInt8, Dig.parts 65 u v = [65] ++ (u ++ v) := fun u v => by unfold Dig.parts; simp
  have hlen : (p ++ q).length ≤ 281474976702464 := by omega
  have hcut := List.take_append_drop k (p ++ q)
  have hO : ∀ W, Below w.heap.size w W → Calls Tryd.prog 10 #[.int .i64 65, .string ⟨((p ++ q).take k).toArray⟩, .string ⟨((p ++ q).drop k).toArray⟩] W fun e w' => e = .returned (.string ⟨(Dig.md5 ([65] ++ (p ++ q))).toArray⟩) ∧ Below W.heap.size W w' := fun W hb => by
    have h := chap_any 65 ((p ++ q).take k) ((p ++ q).drop k) W (by rw [List.length_take, List.length_drop]; omega) (Lib.hid (T.below hb))
    rwa [h65, hcut] at h
  refine parts_walk p q (p ++ q) ((p ++ q).take k) ((p ++ q).drop k) ([65] ++ (p ++ q)) cut k (p ++ q).length ⟨(Dig.md5 (p ++ q)).toArray⟩ ⟨(Dig.md5 ([65] ++ (p ++ q))).toArray⟩ w hlen hk hk0 hkm (sz _) (by rw [cut_list, List.drop_zero]) (by rw [← sz (p ++ q), tail_list])
    (sums p q (by omega)) ?_ (sums [65] (p ++ q) (by simp only [List.length_singleton]; omega)) (Lib.hid T) (Lib.hid fun W hb => of_any _ W (by omega) (Lib.hid (T.below hb))) (Lib.hid fun W hb => of_any _ W (by rw [List.length_append, List.length_singleton]; omega) (Lib.hid (T.below hb))) (Lib.hid fun W hb => ?_) (Lib.hid hO) (Lib.hid fun h0 W hb => ?_) (Lib.hid fun h0 W hb => ?_)
  · have h := sums ((p ++ q).take k) ((p ++ q).drop k) (by rw [List.length_take, List.length_drop]; omega)
    rwa [hcut] at h
  · have h := chap_any 65 p q W (by omega) (Lib.hid (T.below hb))
    rwa [h65] at h
  · have h := of_any (p ++ q) W (by omega) (Lib.hid (T.below hb))
    have he := List.eq_nil_of_length_eq_zero h0
    rw [he] at h ⊢
    rw [← empty_eq] at h
    exact h
  · have h := hO W hb
    have he := List.eq_nil_of_length_eq_zero h0
    rw [he] at h ⊢
    rw [List.take_nil, List.drop_nil, ← empty_eq] at h
    exact h
end Go.Proofs.YtnkcplaggiopmaaDoor.Dg
