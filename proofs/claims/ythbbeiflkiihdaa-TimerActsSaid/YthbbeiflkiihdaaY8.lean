/-
  Contracts of the program's timers: a time set, one stopped.
-/
import Derived.Test.YthbbeiflkiihdaaY7
namespace Go.Proofs.Ythbbeiflkiihdaa.Y
open Go.RowKit
set_option maxHeartbeats 1600000 in
theorem move_any (B k : Nat) (t : Int) (v : Value) (A : List Tim.T) (w : World) (h : Pl B v w A) (hl : A.length ≤ 100000) (hk : k < A.length) (hH : Tim.Hp A A.length) :
    Calls Try.prog 17 #[.pointer (some ⟨B, 0, none⟩), .int .i64 (k : Int), .int .i64 t] w fun e w' => e = .returned (.tuple #[]) ∧ ∃ A', Pl B v w' A' ∧ A'.Perm (A.set k ((Tim.g A k).1, t)) ∧ Tim.Hp A' A'.length ∧ Mv B v v w w' := by
  obtain ⟨G, cap, rfl, _, _, hG⟩ := h.arr.full (by omega)
  obtain ⟨_, k1⟩ := h.arr.cells k hk
  have c0 := h.box.cell 0 _ rfl
  have hi := indexT G A.length cap k hk
  have fz := h.arr.frozen
  have hg := blk_grown w ⟨G, 2 * k + 1, none⟩ (.int .i64 t)
  have hp := Lib.hid (Pl.grown h (h.arr.setAt k t hk) hg)
  have hv := Lib.hid (Mv.of_grown (v := .slice (some ⟨G, 0, none⟩) A.length cap) hg B)
  have hl2 : (A.set k ((Tim.g A k).1, t)).length = A.length := List.length_set ..
  have hF := Tim.hp_set hH (Nat.le_refl _) hk ((Tim.g A k).1, t)
  have HF := Lib.hid (fix_any B _ (A.set k ((Tim.g A k).1, t)) k _ hp.out (by omega) (by omega) (by rw [hl2]; exact hF))
  unfold face at HF
  obtain ⟨o8, ho8⟩ : ∃ o8, o8 = 2 * k := ⟨_, rfl⟩
  rw [← ho8] at k1 hi hp hv HF
  generalize Tim.g A k = x at *
  clear h hH hF hg ho8 hl2
  go_enter Try.func17, Try.ntmps17
  go_wp2_with fail
  refine HF.out.mono ?_
  rintro e w1 ⟨rfl, A', hp1, hq1, hh1, hv1⟩
  have H1 := Lib.hid hp1
  have V1 := Lib.hid (hv.out.trans hv1)
  have Q1 : Hid (A'.Perm (A.set k (x.1, t)) ∧ Tim.Hp A' A'.length) := Lib.hid ⟨hq1, hh1⟩
  clear hp1 hq1 hh1 hv1
  go_wp2_with fail
  go_end0
  exact ⟨rfl, A', H1.out, Q1.out.1, Q1.out.2, V1.out⟩
/-- The program's timers hold what the sorted list 'S' holds. -/
structure Tm (B : Nat) (v : Value) (w : World) (S : List Tim.T) : Prop where
  ok : Tim.Ok S
  pile : ∃ A, Pl B v w A ∧ Tim.Hp A A.length ∧ A.Perm S
theorem Tm.below {B : Nat} {v : Value} {w w' : World} {S : List Tim.T} (h : Tm B v w S) (hb : Below w.heap.size w w') : Tm B v w' S := by
  obtain ⟨A, hp, hh, hq⟩ := h.pile
  exact ⟨h.ok, A, hp.below hb, hh, hq⟩
theorem Tm.other {B B2 : Nat} {v v' v2 : Value} {w w' : World} {S : List Tim.T} (h : Tm B2 v2 w S) (k : Mv B v v' w w') (a : Apart B v B2 v2) : Tm B2 v2 w' S := by
  obtain ⟨A, hp, hh, hq⟩ := h.pile
  exact ⟨h.ok, A, hp.other k a, hh, hq⟩
theorem Tm.lt {B : Nat} {v : Value} {w : World} {S : List Tim.T} (h : Tm B v w S) : B < w.heap.size := by
  obtain ⟨A, hp, _⟩ := h.pile
  exact hp.lt
theorem Tm.row {B : Nat} {v : Value} {w : World} {S : List Tim.T} (h : Tm B v w S) : ∀ k, v.ownBlock = some k → B < k ∧ k < w.heap.size := fun k hk => by
  obtain ⟨A, hp, _⟩ := h.pile
  exact hp.arr.lt k hk
theorem Tm.form {B : Nat} {v : Value} {w : World} {S : List Tim.T} (h : Tm B v w S) : ∃ p cap, v = .slice p S.length cap := by
  obtain ⟨A, hp, _, hq⟩ := h.pile
  obtain ⟨p, cap, e⟩ := hp.form
  exact ⟨p, cap, by rw [e, hq.length_eq]⟩
theorem tm_new (w : World) : Calls Try.prog 4 #[] w fun e w' => e = .returned (.pointer (some ⟨w.heap.size, 0, none⟩)) ∧ Tm w.heap.size (.slice none 0 0) w' [] ∧ Below w.heap.size w w' ∧ w.heap.size < w'.heap.size := by
  refine (new_any w).mono ?_
  rintro e w' ⟨rfl, hp, hb, hz⟩
  exact ⟨rfl, ⟨Tim.ok_nil, [], hp, fun k _ hk => absurd hk (by simp), List.Perm.refl _⟩, hb, hz⟩
/-- What a call that answers a number leaves. -/
def NumPost (B : Nat) (v : Value) (w : World) (r : List Tim.T × Int) (e : Ending) (w' : World) : Prop := e = .returned (.int .i64 r.2) ∧ ∃ v', Tm B v' w' r.1 ∧ Mv B v v' w w'
set_option maxHeartbeats 800000 in
theorem set_form (B : Nat) (v : Value) (S : List Tim.T) (id t : Int) (w : World) (h : Tm B v w S) (hf : id < 0 ∨ t < 0) :
    Calls Try.prog 5 #[.pointer (some ⟨B, 0, none⟩), .int .i64 id, .int .i64 t] w (NumPost B v w (S, 1100)) := by
  have HP : Hid (NumPost B v w (S, 1100) (.returned (.int .i64 1100)) w) := Lib.hid ⟨rfl, v, h, Mv.refl _ _ _⟩
  clear h
  by_cases h1 : id < 0
  · clear hf
    go_enter Try.func5, Try.ntmps5
    go_wp2_with fail
    go_ret
    exact HP.out
  · have h2 : t < 0 := by omega
    clear hf
    go_enter Try.func5, Try.ntmps5
    go_wp2_with fail
    go_ret
    exact HP.out
set_option maxHeartbeats 1600000 in
theorem set_there (B : Nat) (v : Value) (S : List Tim.T) (id t : Int) (w : World) (h : Tm B v w S) (h1 : ¬id < 0) (h2 : ¬t < 0) (hh : Tim.has S id = true) :
    Calls Try.prog 5 #[.pointer (some ⟨B, 0, none⟩), .int .i64 id, .int .i64 t] w (NumPost B v w (Tim.ins (id, t) (Tim.del S id), 0)) := by
  have hok := h.ok
  have hok2 := Tim.set_ok h.ok id t
  have e2 : Tim.set S id t = (Tim.ins (id, t) (Tim.del S id), 0) := by unfold Tim.set; rw [if_neg (by omega), if_pos hh]
  rw [e2] at hok2
  obtain ⟨A, hp, hH, hq⟩ := h.pile
  have hlen : A.length ≤ 256 := by rw [hq.length_eq]; exact hok.few
  have HF := Lib.hid (find_yes B v A id w hp (by omega) (by rw [Tim.has_perm hq]; exact hh))
  have HMV : Hid (∀ k w1, k < A.length → (Tim.g A k).1 = id → Below w.heap.size w w1 → Calls Try.prog 17 #[.pointer (some ⟨B, 0, none⟩), .int .i64 (k : Int), .int .i64 t] w1 fun e w' => e = .returned (.tuple #[]) ∧ NumPost B v w (Tim.ins (id, t) (Tim.del S id), 0) (.returned (.int .i64 0)) w') := Lib.hid fun k w1 hk hid hb => by
    refine (move_any B k t v A w1 (hp.below hb) (by omega) hk hH).mono ?_
    rintro e w' ⟨rfl, A', hp', hq', hh', hv'⟩
    refine ⟨rfl, rfl, v, ⟨hok2, A', hp', hh', ?_⟩, (Mv.of_below hb B v).trans hv'⟩
    rw [hid] at hq'
    exact hq'.trans (Tim.perm_move hq hok.ids hk hid)
  clear h hp hH hq hlen hok hok2 e2 hh
  go_enter Try.func5, Try.ntmps5
  go_wp2_with fail
  refine HF.out.mono ?_
  rintro e w1 ⟨k, rfl, hk, hid, hb⟩
  have HM := Lib.hid (HMV.out k w1 hk hid hb)
  have k0 : (0 : Int) ≤ (k : Int) := by omega
  clear HMV HF hb hid
  go_wp2_with fail
  refine HM.out.mono ?_
  rintro e w2 ⟨rfl, hn⟩
  have HN := Lib.hid hn
  clear hn
  go_wp2_with fail
  go_ret
  exact HN.out
end Go.Proofs.Ythbbeiflkiihdaa.Y
