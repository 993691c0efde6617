/-
  Timers as a sorted list: set, stopped, fallen due; a heap that holds the same.
-/
import Derived.Test.YthbbeiflkiihdaaTMath
namespace Go.Proofs.Ythbbeiflkiihdaa.Tim
def has (S : List T) (id : Int) : Bool := S.any (·.1 == id)
def del (S : List T) (id : Int) : List T := S.filter (fun x => x.1 != id)
def ins (y : T) : List T → List T
  | [] => [y]
  | x :: r => if tl y x then y :: x :: r else x :: ins y r
/-- A time is set: the timers behind it, the error's number. -/
def set (S : List T) (id t : Int) : List T × Int :=
  if id < 0 ∨ t < 0 then (S, 1100) else if has S id then (ins (id, t) (del S id), 0) else if 256 ≤ S.length then (S, 1102) else (ins (id, t) S, 0)
def stop (S : List T) (id : Int) : List T × Int := if has S id then (del S id, 0) else (S, 1101)
/-- What is left, and the ids that have fallen due. -/
def due (S : List T) (now : Int) : List T × List Int := (S.dropWhile (fun x => decide (x.2 ≤ now)), (S.takeWhile (fun x => decide (x.2 ≤ now))).map (·.1))
/-- The first one, or an error's number. -/
def next (S : List T) : Int × Int × Int := match S with | [] => (0, 0, 1101) | x :: _ => (x.1, x.2, 0)
/-- Sorted, each id once, few. -/
structure Ok (S : List T) : Prop where
  sorted : S.Pairwise tl
  ids : S.Pairwise (fun a b => a.1 ≠ b.1)
  few : S.length ≤ 256
theorem ok_nil : Ok [] := ⟨List.Pairwise.nil, List.Pairwise.nil, by simp⟩
theorem has_iff (S : List T) (id : Int) : has S id = true ↔ ∃ x ∈ S, x.1 = id := by simp [has]
theorem has_false (S : List T) (id : Int) : has S id = false ↔ ∀ x ∈ S, x.1 ≠ id := by simp [has]
theorem has_perm {A S : List T} (h : A.Perm S) (id : Int) : has A id = has S id := by
  rw [Bool.eq_iff_iff, has_iff, has_iff]
  exact ⟨fun ⟨x, hx, e⟩ => ⟨x, h.mem_iff.1 hx, e⟩, fun ⟨x, hx, e⟩ => ⟨x, h.mem_iff.2 hx, e⟩⟩
theorem ins_perm (y : T) : ∀ S : List T, (ins y S).Perm (y :: S)
  | [] => List.Perm.refl _
  | x :: r => by
    unfold ins
    split
    · exact List.Perm.refl _
    · exact ((ins_perm y r).cons x).trans (List.Perm.swap y x r)
theorem ins_length (y : T) (S : List T) : (ins y S).length = S.length + 1 := by rw [(ins_perm y S).length_eq]; rfl
theorem ins_mem (y x : T) (S : List T) : x ∈ ins y S ↔ x = y ∨ x ∈ S := by rw [(ins_perm y S).mem_iff]; simp
theorem ins_sorted (y : T) : ∀ S : List T, S.Pairwise tl → (∀ x ∈ S, x.1 ≠ y.1) → (ins y S).Pairwise tl
  | [], _, _ => by simp [ins]
  | x :: r, h, hn => by
    rw [List.pairwise_cons] at h
    unfold ins
    split
    · rename_i hy
      rw [List.pairwise_cons]
      refine ⟨fun z hz => ?_, List.pairwise_cons.2 h⟩
      rcases List.mem_cons.1 hz with rfl | hz
      · exact hy
      · exact tl_trans hy (h.1 z hz)
    · rename_i hy
      rw [List.pairwise_cons]
      refine ⟨fun z hz => ?_, ins_sorted y r h.2 fun z hz => hn z (List.mem_cons_of_mem _ hz)⟩
      rcases (ins_mem y z r).1 hz with rfl | hz
      · have := hn x (List.mem_cons_self ..)
        simp only [tl] at hy ⊢
        omega
      · exact h.1 z hz
theorem ids_perm {A S : List T} (h : A.Perm S) (k : A.Pairwise (fun a b => a.1 ≠ b.1)) : S.Pairwise (fun a b => a.1 ≠ b.1) := h.pairwise k fun e x => e x.symm
theorem del_mem (S : List T) (id : Int) (x : T) : x ∈ del S id ↔ x ∈ S ∧ x.1 ≠ id := by simp [del]
theorem del_none (S : List T) (id : Int) (h : ∀ x ∈ S, x.1 ≠ id) : del S id = S := by
  unfold del
  rw [List.filter_eq_self]
  intro x hx
  simpa using h x hx
theorem del_perm {A S : List T} (h : A.Perm S) (id : Int) : (del A id).Perm (del S id) := h.filter _
theorem del_length (S : List T) (id : Int) : (del S id).length ≤ S.length := List.length_filter_le ..
theorem del_ok {S : List T} (h : Ok S) (id : Int) : Ok (del S id) := ⟨h.sorted.filter _, h.ids.filter _, Nat.le_trans (del_length S id) h.few⟩
theorem ins_ok {S : List T} (h : Ok S) (y : T) (hn : ∀ x ∈ S, x.1 ≠ y.1) (hl : S.length < 256) : Ok (ins y S) :=
  ⟨ins_sorted y S h.sorted hn, ids_perm (ins_perm y S).symm (List.pairwise_cons.2 ⟨fun x hx e => hn x hx e.symm, h.ids⟩), by rw [ins_length]; omega⟩
/-- One that is there, taken out. -/
theorem mem_perm {S : List T} (y : T) : S.Pairwise (fun a b => a.1 ≠ b.1) → y ∈ S → S.Perm (y :: del S y.1) := by
  induction S with
  | nil => intro _ h; cases h
  | cons x r ih =>
    intro h hy
    rw [List.pairwise_cons] at h
    rcases List.mem_cons.1 hy with rfl | hy
    · have e : del (y :: r) y.1 = r := by
        unfold del
        rw [List.filter_cons_of_neg (by simp)]
        exact del_none r y.1 fun z hz => (h.1 z hz).symm
      rw [e]
    · have e : del (x :: r) y.1 = x :: del r y.1 := by
        unfold del
        rw [List.filter_cons_of_pos (by simpa using h.1 y hy)]
      rw [e]
      exact ((ih h.2 hy).cons x).trans (List.Perm.swap y x _)
theorem del_less {S : List T} (y : T) (h : S.Pairwise (fun a b => a.1 ≠ b.1)) (hy : y ∈ S) : (del S y.1).length + 1 = S.length := by
  rw [(mem_perm y h hy).length_eq]; rfl
theorem set_ok {S : List T} (h : Ok S) (id t : Int) : Ok (set S id t).1 := by
  unfold set
  split
  · exact h
  · split
    · rename_i hh
      obtain ⟨y, hy, rfl⟩ := (has_iff S id).1 hh
      have := del_less y h.ids hy
      have := h.few
      exact ins_ok (del_ok h _) _ (fun x hx => ((del_mem S y.1 x).1 hx).2) (by omega)
    · split
      · exact h
      · rename_i hh _
        exact ins_ok h _ (fun x hx => (has_false S id).1 (by simpa using hh) x hx) (by omega)
theorem stop_ok {S : List T} (h : Ok S) (id : Int) : Ok (stop S id).1 := by
  unfold stop
  split
  · exact del_ok h _
  · exact h
theorem due_ok {S : List T} (h : Ok S) (now : Int) : Ok (due S now).1 :=
  ⟨h.sorted.sublist (List.dropWhile_sublist _), h.ids.sublist (List.dropWhile_sublist _), Nat.le_trans (List.dropWhile_sublist _).length_le h.few⟩
/-- A heap that holds what a sorted list holds: its first one is the list's. -/
theorem heap_first {A S : List T} {x : T} (h : Hp A A.length) (hp : A.Perm (x :: S)) (hs : (x :: S).Pairwise tl) : 0 < A.length ∧ g A 0 = x := by
  have hl : 0 < A.length := by rw [hp.length_eq]; simp
  refine ⟨hl, ?_⟩
  obtain ⟨k, hk, e⟩ := List.getElem_of_mem (hp.mem_iff.2 (List.mem_cons_self ..))
  have h1 := hp_first h k hk
  rw [g_eq A k hk, e] at h1
  have h2 : g A 0 ∈ x :: S := hp.mem_iff.1 (by rw [g_eq A 0 hl]; exact List.getElem_mem _)
  rcases List.mem_cons.1 h2 with h2 | h2
  · exact h2
  · exact absurd ((List.pairwise_cons.1 hs).1 _ h2) h1
theorem due_step (x : T) (S : List T) (now : Int) (h : x.2 ≤ now) : due (x :: S) now = ((due S now).1, x.1 :: (due S now).2) := by simp [due, h]
theorem due_end (x : T) (S : List T) (now : Int) (h : ¬x.2 ≤ now) : due (x :: S) now = (x :: S, []) := by simp [due, h]
theorem due_nil (now : Int) : due [] now = ([], []) := rfl
/-- A place in the heap is written over: the same as stopped and set again. -/
theorem perm_move {A S : List T} {i : Nat} {id t : Int} (hp : A.Perm S) (hids : S.Pairwise (fun a b => a.1 ≠ b.1)) (hi : i < A.length) (hid : (g A i).1 = id) : (A.set i (id, t)).Perm (ins (id, t) (del S id)) := by
  have hidsA := ids_perm hp.symm hids
  have e1 : ∀ (A : List T) (i : Nat), (hi : i < A.length) → (A[i]).1 = id → del (A.set i (id, t)) id = del A id := by
    intro A
    induction A with
    | nil => intro i hi; simp at hi
    | cons a r ih =>
      intro i hi h
      cases i with
      | zero =>
        have h : a.1 = id := h
        simp [del, h]
      | succ i =>
        have := ih i (by simpa using hi) (by simpa using h)
        unfold del at this ⊢
        rw [List.set_cons_succ, List.filter_cons, List.filter_cons, this]
  have e2 : (A.set i (id, t)).map (·.1) = A.map (·.1) := by
    rw [List.map_set]
    apply List.ext_getElem?
    intro k
    rw [List.getElem?_set]
    split
    · rename_i e
      subst e
      rw [g_eq A i hi] at hid
      simp [hi, hid]
    · rfl
  have h3 : (A.set i (id, t)).Pairwise (fun a b => a.1 ≠ b.1) := by
    have h4 : (A.map (·.1)).Pairwise (· ≠ ·) := List.pairwise_map.2 hidsA
    rw [← e2] at h4
    exact List.pairwise_map.1 h4
  have h5 := mem_perm (id, t) h3 (List.mem_set hi _)
  rw [e1 A i hi (by rw [← g_eq A i hi]; exact hid)] at h5
  exact h5.trans (((del_perm hp id).cons _).trans (ins_perm _ _).symm)
/-- The last one of a list that holds what S holds, taken away. -/
theorem perm_pop {C S : List T} {y : T} (hp : (C ++ [y]).Perm S) (hids : S.Pairwise (fun a b => a.1 ≠ b.1)) : C.Perm (del S y.1) := by
  have h := (mem_perm y hids (hp.mem_iff.1 (by simp)))
  have h2 : (y :: C).Perm (y :: del S y.1) := ((List.perm_append_comm (l₁ := [y]) (l₂ := C)).trans hp).trans h
  exact List.Perm.cons_inv h2
theorem take_last (B : List T) (n : Nat) (h : B.length = n + 1) : B.take n ++ [g B n] = B := by
  rw [g_eq B n (by omega)]
  have := List.take_append_getElem (l := B) (i := n) (by omega)
  rw [this, List.take_of_length_le (by omega)]
end Go.Proofs.Ythbbeiflkiihdaa.Tim
