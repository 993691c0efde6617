/-
  Contract of the heap's way up.
-/
import Derived.Test.YthbbeiflkiihdaaY1
import Derived.Handy
namespace Go.Proofs.Ythbbeiflkiihdaa.Y
open Go.RowKit
/-- The machine as a heap.Interface. -/
def face (B : Nat) : Value := .iface 55 (.pointer (some ⟨B, 0, none⟩))
theorem load_line (B : Nat) (v : Value) (w : World) (c0 : w.cell? ⟨B, 0, none⟩ = some v) : (loadVar 48 ⟨B, 0, none⟩).run Try.prog w = .ok v w := by
  simp [loadVar, go_sem, c0]
theorem meth_less (f B : Nat) (v : Value) (w : World) (c0 : w.cell? ⟨B, 0, none⟩ = some v) : (method (f + 1) 55 (.pointer (some ⟨B, 0, none⟩)) "Less").run Try.prog w = .ok (47, v) w := by
  obtain ⟨m, hm, h1, h2⟩ : ∃ m, Array.find? (fun x => x.name == "Less") Try.t55.methods = some m ∧ m.func = some (47, false) ∧ m.path = #[⟨50, 0, true⟩] := ⟨_, by rfl, by rfl, by rfl⟩
  unfold method
  simp [go_sem, hm, h1, h2, follow, Place.get, receiverAt, c0]
theorem meth_swap (f B : Nat) (v : Value) (w : World) (c0 : w.cell? ⟨B, 0, none⟩ = some v) : (method (f + 1) 55 (.pointer (some ⟨B, 0, none⟩)) "Swap").run Try.prog w = .ok (48, v) w := by
  obtain ⟨m, hm, h1, h2⟩ : ∃ m, Array.find? (fun x => x.name == "Swap") Try.t55.methods = some m ∧ m.func = some (48, false) ∧ m.path = #[⟨50, 0, true⟩] := ⟨_, by rfl, by rfl, by rfl⟩
  unfold method
  simp [go_sem, hm, h1, h2, follow, Place.get, receiverAt, c0]
theorem meth_len (f B : Nat) (v : Value) (w : World) (c0 : w.cell? ⟨B, 0, none⟩ = some v) : (method (f + 1) 55 (.pointer (some ⟨B, 0, none⟩)) "Len").run Try.prog w = .ok (18, v) w := by
  obtain ⟨m, hm, h1, h2⟩ : ∃ m, Array.find? (fun x => x.name == "Len") Try.t55.methods = some m ∧ m.func = some (18, false) ∧ m.path = #[⟨50, 0, true⟩] := ⟨_, by rfl, by rfl, by rfl⟩
  unfold method
  simp [go_sem, hm, h1, h2, follow, Place.get, receiverAt, c0]
theorem Pl.grown {B : Nat} {v : Value} {w w' : World} {A A' : List Tim.T} (h : Pl B v w A) (hr : RowT (B + 1) w' v A') (hg : w.grownBy w' v.ownBlock) : Pl B v w' A' :=
  ⟨h.box.grown hg (fun e => by have := (h.arr.lt B e.symm).1; omega), hr⟩
/-- A swap, as the walks take it. -/
theorem swap_pl {B : Nat} {v : Value} {w : World} {A : List Tim.T} (h : Pl B v w A) (i j : Nat) (hi : i < A.length) (hj : j < A.length) :
    Calls Try.prog 48 #[v, .int .i64 (i : Int), .int .i64 (j : Int)] w fun e w' => e = .returned (.tuple #[]) ∧ Pl B v w' (Tim.sw A i j) ∧ w.grownBy w' v.ownBlock := by
  refine (swap_any h.arr i j hi hj).mono ?_
  rintro e w' ⟨rfl, hr, hg⟩
  exact ⟨rfl, Pl.grown h hr hg, hg⟩
theorem drop_set {α : Type} (A : List α) (i n : Nat) (x : α) (h : i < n) : (A.set i x).drop n = A.drop n := by
  apply List.ext_getElem?
  intro k
  rw [List.getElem?_drop, List.getElem?_drop, List.getElem?_set_ne (by omega)]
theorem drop_sw (A : List Tim.T) (i j n : Nat) (hi : i < n) (hj : j < n) : (Tim.sw A i j).drop n = A.drop n := by
  unfold Tim.sw
  rw [drop_set _ _ _ _ hj, drop_set _ _ _ _ hi]
set_option maxHeartbeats 1600000 in
theorem up_any (B : Nat) (v : Value) (A : List Tim.T) (n j : Nat) (w : World) (h : Pl B v w A) (hn : n ≤ A.length) (hj : j < n) (hU : Tim.Up A n j) (hs : A.length ≤ 1000000) :
    Calls Try.prog 28 #[face B, .int .i64 (j : Int)] w fun e w' => e = .returned (.tuple #[]) ∧ ∃ A', A'.length = A.length ∧ Pl B v w' A' ∧ A'.Perm A ∧ A'.drop n = A.drop n ∧ Tim.Hp A' n ∧ w.grownBy w' v.ownBlock := by
  obtain ⟨p, cap, rfl⟩ := h.form
  obtain ⟨m, hm⟩ : ∃ m, A.length = m := ⟨_, rfl⟩
  rw [hm] at h hn hs ⊢
  unfold face
  have H := Lib.hid h
  have HU := Lib.hid hU
  clear h hU
  go_enter Try.func28, Try.ntmps28
  go_wp2_with fail
  go_loopw [1, 4] (fun t1 _ wr => ∃ (k : Nat) (A' : List Tim.T), k < n ∧ t1 = .int .i64 (k : Int) ∧ A'.length = m ∧ Pl B (.slice p m cap) wr A' ∧ A'.Perm A ∧ A'.drop n = A.drop n ∧ Tim.Up A' n k ∧ w.grownBy wr (Value.slice p m cap).ownBlock) (fun t1 _ _ => (intOf t1).toNat)
  case atStart => exact ⟨j, A, hj, rfl, hm, H.out, List.Perm.refl _, rfl, HU.out, ⟨rfl, rfl, rfl, Nat.le_refl _, fun _ _ _ => rfl⟩⟩
  case round =>
    obtain ⟨k, A', hk, rfl, hl, hp, hperm, hdrop, hup, hg⟩ := hrel
    have HP := Lib.hid hp
    have HG := Lib.hid hg
    have HQ : Hid (A'.Perm A ∧ A'.drop n = A.drop n ∧ Tim.Up A' n k) := Lib.hid ⟨hperm, hdrop, hup⟩
    clear hp hg hperm hdrop hup
    have c0 := HP.out.box.cell 0 _ rfl
    by_cases hk0 : k = 0
    · subst hk0
      go_wp2_with fail
      go_end0
      exact ⟨rfl, A', hl, HP.out, HQ.out.1, HQ.out.2.1, Tim.up_zero HQ.out.2.2, HG.out⟩
    · obtain ⟨q, hq⟩ : ∃ q, q = (k - 1) / 2 := ⟨_, rfl⟩
      have hqk : q < k := by omega
      have e1 : ((k : Int) - 1) / 2 = (q : Int) := by omega
      have b1 : ((q : Int) == (k : Int)) = false := by rw [beq_eq_false_iff_ne]; omega
      have m1 := fun f => meth_less f B _ wr c0
      have HQ2 := Lib.hid hq
      clear hq
      have hless := less_any HP.out.arr k q (by omega) (by omega)
      have HL := Lib.hid hless
      clear hless
      by_cases hlt : Tim.tl (Tim.g A' k) (Tim.g A' q)
      · have HL : Hid (Calls Try.prog 47 #[.slice p m cap, .int .i64 (k : Int), .int .i64 (q : Int)] wr fun e w' => e = .returned (.bool true) ∧ Below wr.heap.size wr w') := Lib.hid (by have h := HL.out; rwa [decide_eq_true hlt] at h)
        go_wp2_with (first | (go_at_call 47; with_reducible refine HL.out.mono ?_; rintro e w2 ⟨rfl, hb2⟩; have HP2 := Lib.hid (HP.out.below hb2); have HG2 := Lib.hid (gbelow HG.out hb2); have c2 := HP2.out.box.cell 0 _ rfl; have m2 := (fun f => meth_swap f B _ w2 c2); have HS := Lib.hid (swap_pl HP2.out q k (by omega) (by omega)); clear hb2) | (go_at_call 48; with_reducible refine HS.out.mono ?_; rintro e w3 ⟨rfl, hp3, hg3⟩))
        have HP3 := Lib.hid hp3
        have HG3 := Lib.hid (gtrans HG2.out hg3)
        have HQ3 : Hid (Tim.Up (Tim.sw A' q k) n q) := Lib.hid (by
          have h := Tim.up_step HQ.out.2.2 (by omega) hk (by omega) (by rw [← HQ2.out]; exact hlt)
          rwa [← HQ2.out] at h)
        clear hp3 hg3 hlt
        go_roundw
        case rel => exact ⟨q, Tim.sw A' q k, by omega, rfl, by rw [Tim.sw_length, hl], HP3.out, (Tim.sw_perm A' q k (by omega) (by omega)).trans HQ.out.1, (drop_sw A' q k n (by omega) hk).trans HQ.out.2.1, HQ3.out, HG3.out⟩
        case measure => simp [intOf]; omega
      · have HL : Hid (Calls Try.prog 47 #[.slice p m cap, .int .i64 (k : Int), .int .i64 (q : Int)] wr fun e w' => e = .returned (.bool false) ∧ Below wr.heap.size wr w') := Lib.hid (by have h := HL.out; rwa [decide_eq_false hlt] at h)
        go_wp2_with (go_at_call 47; with_reducible refine HL.out.mono ?_; rintro e w2 ⟨rfl, hb2⟩)
        go_end0
        exact ⟨rfl, A', hl, HP.out.below hb2, HQ.out.1, HQ.out.2.1, Tim.up_end HQ.out.2.2 (by rw [← HQ2.out]; exact hlt), gbelow HG.out hb2⟩
end Go.Proofs.Ythbbeiflkiihdaa.Y
