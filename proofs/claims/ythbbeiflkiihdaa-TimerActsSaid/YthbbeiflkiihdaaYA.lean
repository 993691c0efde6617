/-
  Contracts of the program's timers: a time set where there was none, one stopped, the first one, how many.
-/
import Derived.Test.YthbbeiflkiihdaaY8
import Derived.OwnWalk
namespace Go.Proofs.Ythbbeiflkiihdaa.Y
open Go.RowKit
set_option maxHeartbeats 1600000 in
theorem set_full (B : Nat) (v : Value) (S : List Tim.T) (id t : Int) (w : World) (h : Tm B v w S) (h1 : ¬id < 0) (h2 : ¬t < 0) (hh : Tim.has S id = false) (hl : 256 ≤ S.length) :
    Calls Try.prog 5 #[.pointer (some ⟨B, 0, none⟩), .int .i64 id, .int .i64 t] w (NumPost B v w (S, 1102)) := by
  obtain ⟨p, cap, rfl⟩ := h.form
  obtain ⟨A, hp, hH, hq⟩ := h.pile
  have hlen : A.length = S.length := hq.length_eq
  have hfew := h.ok.few
  have HF := Lib.hid (find_no B _ A id w hp (by omega) (by rw [Tim.has_perm hq]; exact hh))
  have HL := Lib.hid fun W => len_any p S.length cap W
  have HB := Lib.hid hp.box
  have HT := Lib.hid h
  have z : (256 : Int) ≤ (S.length : Int) := by omega
  clear h hp hH hq hh hlen
  go_enter Try.func5, Try.ntmps5
  go_wp2_with (first | (go_at_call 16; refine HF.out.mono ?_; rintro e w1 ⟨rfl, hb1⟩; have c0 := (HB.out.below hb1).cell 0 _ rfl; have HP : Hid (NumPost B (.slice p S.length cap) w (S, 1102) (.returned (.int .i64 1102)) w1) := Lib.hid ⟨rfl, _, HT.out.below hb1, Mv.of_below hb1 B _⟩; clear hb1 HF) | (go_at_call 18; refine (HL.out _).mono ?_; rintro e w2 ⟨rfl, rfl⟩))
  go_ret
  exact HP.out
set_option maxRecDepth 100000 in
set_option maxHeartbeats 1600000 in
theorem set_new (B : Nat) (v : Value) (S : List Tim.T) (id t : Int) (w : World) (h : Tm B v w S) (h1 : ¬id < 0) (h2 : ¬t < 0) (hh : Tim.has S id = false) (hl : S.length < 256) :
    Calls Try.prog 5 #[.pointer (some ⟨B, 0, none⟩), .int .i64 id, .int .i64 t] w (NumPost B v w (Tim.ins (id, t) S, 0)) := by
  have hok2 := Tim.set_ok h.ok id t
  have e2 : Tim.set S id t = (Tim.ins (id, t) S, 0) := by unfold Tim.set; rw [if_neg (by omega), if_neg (by rw [hh]; simp), if_neg (by omega)]
  rw [e2] at hok2
  obtain ⟨p, cap, rfl⟩ := h.form
  obtain ⟨A, hp, hH, hq⟩ := h.pile
  have hlen : A.length = S.length := hq.length_eq
  have HF := Lib.hid (find_no B _ A id w hp (by omega) (by rw [Tim.has_perm hq]; exact hh))
  have HL := Lib.hid fun W => len_any p S.length cap W
  have HB := Lib.hid hp.box
  have HPU : Hid (∀ w1, Below w.heap.size w w1 → Calls Try.prog 19 #[.iface 55 (.pointer (some ⟨B, 0, none⟩)), .iface 57 (.agg #[.int .i64 id, .int .i64 t])] w1 fun e w' => e = .returned (.tuple #[]) ∧ NumPost B (.slice p S.length cap) w (Tim.ins (id, t) S, 0) (.returned (.int .i64 0)) w') := Lib.hid fun w1 hb => by
    refine (hpush_any B _ A (id, t) w1 (hp.below hb) (by omega) hH).mono ?_
    rintro e w' ⟨rfl, v', A', hp', hq', hh', hv'⟩
    exact ⟨rfl, rfl, v', ⟨hok2, A', hp', hh', (hq'.trans ((List.perm_append_comm (l₁ := A) (l₂ := [(id, t)])).trans (hq.cons _))).trans (Tim.ins_perm _ _).symm⟩, (Mv.of_below hb B _).trans hv'⟩
  have z : ¬(256 : Int) ≤ (S.length : Int) := by omega
  clear h hp hH hq hh e2 hok2 hlen
  go_enter Try.func5, Try.ntmps5
  go_wp2_with (first | (go_at_call 16; refine HF.out.mono ?_; rintro e w1 ⟨rfl, hb1⟩; have c0 := (HB.out.below hb1).cell 0 _ rfl; have HP := Lib.hid (HPU.out w1 hb1); clear hb1 HF) | (go_at_call 18; refine (HL.out _).mono ?_; rintro e w2 ⟨rfl, rfl⟩) | (go_at_call 19; refine HP.out.mono ?_; rintro e w3 ⟨rfl, hn⟩; have HN := Lib.hid hn; clear hn))
  go_ret
  exact HN.out
theorem set_any (B : Nat) (v : Value) (S : List Tim.T) (id t : Int) (w : World) (h : Tm B v w S) :
    Calls Try.prog 5 #[.pointer (some ⟨B, 0, none⟩), .int .i64 id, .int .i64 t] w (NumPost B v w (Tim.set S id t)) := by
  unfold Tim.set
  by_cases hf : id < 0 ∨ t < 0
  · rw [if_pos hf]
    exact set_form B v S id t w h hf
  · rw [if_neg hf]
    cases hh : Tim.has S id with
    | true => rw [if_pos rfl]; exact set_there B v S id t w h (by omega) (by omega) hh
    | false =>
      rw [if_neg (by simp)]
      by_cases hl : 256 ≤ S.length
      · rw [if_pos hl]; exact set_full B v S id t w h (by omega) (by omega) hh hl
      · rw [if_neg hl]; exact set_new B v S id t w h (by omega) (by omega) hh (by omega)
set_option maxHeartbeats 1600000 in
theorem stop_no (B : Nat) (v : Value) (S : List Tim.T) (id : Int) (w : World) (h : Tm B v w S) (hh : Tim.has S id = false) :
    Calls Try.prog 8 #[.pointer (some ⟨B, 0, none⟩), .int .i64 id] w (NumPost B v w (S, 1101)) := by
  obtain ⟨A, hp, hH, hq⟩ := h.pile
  have hlen : A.length = S.length := hq.length_eq
  have hfew := h.ok.few
  have HF := Lib.hid (find_no B _ A id w hp (by omega) (by rw [Tim.has_perm hq]; exact hh))
  have HT := Lib.hid h
  clear h hp hH hq hh
  go_enter Try.func8, Try.ntmps8
  go_wp2_with (go_at_call 16; refine HF.out.mono ?_; rintro e w1 ⟨rfl, hb1⟩; have HP : Hid (NumPost B v w (S, 1101) (.returned (.int .i64 1101)) w1) := Lib.hid ⟨rfl, _, HT.out.below hb1, Mv.of_below hb1 B _⟩; clear hb1)
  go_ret
  exact HP.out
set_option maxHeartbeats 1600000 in
theorem stop_yes (B : Nat) (v : Value) (S : List Tim.T) (id : Int) (w : World) (h : Tm B v w S) (hh : Tim.has S id = true) :
    Calls Try.prog 8 #[.pointer (some ⟨B, 0, none⟩), .int .i64 id] w (NumPost B v w (Tim.del S id, 0)) := by
  have hok := h.ok
  obtain ⟨A, hp, hH, hq⟩ := h.pile
  have hlen : A.length ≤ 256 := by rw [hq.length_eq]; exact hok.few
  have HF := Lib.hid (find_yes B v A id w hp (by omega) (by rw [Tim.has_perm hq]; exact hh))
  have HR : Hid (∀ k w1, k < A.length → (Tim.g A k).1 = id → Below w.heap.size w w1 → Calls Try.prog 21 #[.iface 55 (.pointer (some ⟨B, 0, none⟩)), .int .i64 (k : Int)] w1 fun e w' => e = .returned (any (Tim.g A k)) ∧ NumPost B v w (Tim.del S id, 0) (.returned (.int .i64 0)) w') := Lib.hid fun k w1 hk hid hb => by
    obtain ⟨n, hn⟩ : ∃ n, A.length = n + 1 := ⟨A.length - 1, by omega⟩
    refine (remove_any B n k v A w1 (hp.below hb) hn (by omega) (by omega) (by rw [← hn]; exact hH)).mono ?_
    rintro e w' ⟨rfl, v', C, hp', hq', hh', hv', _⟩
    have hq2 := Tim.perm_pop (hq'.trans hq) hok.ids
    rw [hid] at hq2
    exact ⟨rfl, rfl, v', ⟨Tim.del_ok hok id, C, hp', hh', hq2⟩, (Mv.of_below hb B v).trans hv'⟩
  clear h hp hH hq hlen hok hh
  go_enter Try.func8, Try.ntmps8
  go_wp2_with fail
  refine HF.out.mono ?_
  rintro e w1 ⟨k, rfl, hk, hid, hb⟩
  have HM := Lib.hid (HR.out k w1 hk hid hb)
  clear HR HF hb hid
  generalize Tim.g A k = y at *
  go_wp2_with fail
  refine HM.out.mono ?_
  rintro e w2 ⟨rfl, hn⟩
  have HN := Lib.hid hn
  clear hn
  go_wp2_with fail
  go_ret
  exact HN.out
theorem stop_any (B : Nat) (v : Value) (S : List Tim.T) (id : Int) (w : World) (h : Tm B v w S) :
    Calls Try.prog 8 #[.pointer (some ⟨B, 0, none⟩), .int .i64 id] w (NumPost B v w (Tim.stop S id)) := by
  unfold Tim.stop
  cases hh : Tim.has S id with
  | true => rw [if_pos rfl]; exact stop_yes B v S id w h hh
  | false => rw [if_neg (by simp)]; exact stop_no B v S id w h hh
set_option maxHeartbeats 800000 in
theorem tlen_any (B : Nat) (v : Value) (S : List Tim.T) (w : World) (h : Tm B v w S) : Calls Try.prog 14 #[.pointer (some ⟨B, 0, none⟩)] w fun e w' => e = .returned (.int .i64 (S.length : Int)) ∧ w' = w := by
  obtain ⟨A, hp, _, hq⟩ := h.pile
  obtain ⟨p, cap, rfl⟩ := hp.form
  have c0 := hp.box.cell 0 _ rfl
  have HL := Lib.hid fun W => len_any p A.length cap W
  have e := hq.length_eq
  rw [e] at c0 HL
  clear hp hq h e
  go_enter Try.func14, Try.ntmps14
  go_wp2_with (go_at_call 18; refine (HL.out _).mono ?_; rintro e w2 ⟨rfl, rfl⟩)
  go_ret
  exact ⟨rfl, rfl⟩
set_option maxHeartbeats 800000 in
theorem next_walk (B : Nat) (x : Tim.T) (w : World) (b : Bool) (HF : Hid (Calls Try.prog 24 #[.pointer (some ⟨B, 0, none⟩)] w fun e w' => e = .returned (.tuple #[.agg #[.int .i64 x.1, .int .i64 x.2], .bool b]) ∧ Below w.heap.size w w')) :
    Calls Try.prog 13 #[.pointer (some ⟨B, 0, none⟩)] w fun e w' => e = .returned (.tuple #[.int .i64 (if b then x.1 else 0), .int .i64 (if b then x.2 else 0), .int .i64 (if b then 0 else 1101)]) ∧ Below w.heap.size w w' := by
  cases b
  · simp only [Bool.false_eq_true, if_false]
    go_enter Try.func13, Try.ntmps13
    go_wp2_with fail
    refine HF.out.mono ?_
    rintro e w2 ⟨rfl, hb⟩
    have HB := Lib.hid (bel2 hb ((Below.refl w2.heap.size w2).alloc (Nat.le_refl _) (.cells #[.int .i64 x.1, .int .i64 x.2] 57)))
    clear hb
    go_wp2_with fail
    go_ret3
    exact ⟨rfl, HB.out⟩
  · simp only [if_true]
    go_enter Try.func13, Try.ntmps13
    go_wp2_with fail
    refine HF.out.mono ?_
    rintro e w2 ⟨rfl, hb⟩
    have HB := Lib.hid (bel2 hb ((Below.refl w2.heap.size w2).alloc (Nat.le_refl _) (.cells #[.int .i64 x.1, .int .i64 x.2] 57)))
    clear hb
    go_wp2_with fail
    go_quiet (fail)
    go_wp2_with fail
    go_ret3
    exact ⟨rfl, below_drewN HB.out _⟩
theorem next_any (B : Nat) (v : Value) (S : List Tim.T) (w : World) (h : Tm B v w S) :
    Calls Try.prog 13 #[.pointer (some ⟨B, 0, none⟩)] w fun e w' => e = .returned (.tuple #[.int .i64 (Tim.next S).1, .int .i64 (Tim.next S).2.1, .int .i64 (Tim.next S).2.2]) ∧ Below w.heap.size w w' := by
  obtain ⟨A, hp, hH, hq⟩ := h.pile
  cases S with
  | nil =>
    obtain rfl : A = [] := hq.eq_nil
    exact next_walk B (0, 0) w false (Lib.hid (first_none B v w hp))
  | cons x S =>
    obtain ⟨h0, e⟩ := Tim.heap_first hH hq h.ok.sorted
    have hf := first_some B v A w hp h0
    rw [e] at hf
    exact next_walk B x w true (Lib.hid hf)
end Go.Proofs.Ythbbeiflkiihdaa.Y
