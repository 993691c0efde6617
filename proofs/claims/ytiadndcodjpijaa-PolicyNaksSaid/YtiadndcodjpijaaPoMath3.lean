/-
  Stage 14, plain: to learn the same again turns nothing more.
-/
import Derived.Test.YtiadndcodjpijaaPoMath2
namespace Go.Proofs.Ytiadndcodjpijaa.Pol
def F1 (code : Int) (o : Op) : Option Int := if right o = true ∧ o.1 = 1 then (if code = 4 then some 0 else if unit (Pl.nm o.2) = true then some (Pl.nm o.2) else none) else none
def F5 (code : Int) (o : Op) : Option Int := if right o = true ∧ o.1 = 5 then (if code = 4 then some 0 else if Pl.nm o.2 ≠ 0 then some (Pl.nm o.2) else none) else none
def F17 (code : Int) (o : Op) : Option Int := if right o = true ∧ o.1 = 17 then (if code = 4 then some 0 else if unit (Pl.nm o.2) = true then some (Pl.nm o.2) else none) else none
def F18 (code : Int) (o : Op) : Option Bool := if right o = true ∧ o.1 = 18 then (if code = 4 then some false else none) else none
def F19 (code : Int) (o : Op) : Option (List UInt8) := if right o = true ∧ o.1 = 19 then (if code = 4 then some [] else some o.2) else none
def F23 (code : Int) (o : Op) : Option Int := if right o = true ∧ o.1 = 23 then (if code = 4 then some 0 else some (Pl.nm o.2)) else none
def one {α : Type} [DecidableEq α] (z : α) (f : Op → Option α) (x : α) (o : Op) : α := if x = z then x else (f o).getD x
def parts (code : Int) (l : Lk) (os : List Op) : Lk := ⟨fld 0 (F1 code) l.mru os, fld 0 (F5 code) l.magic os, fld 0 (F17 code) l.mrru os, fld false (F18 code) l.short os, fld [] (F19 code) l.disc os, fld 0 (F23 code) l.num os⟩
theorem one_none {α : Type} [DecidableEq α] (z : α) (f : Op → Option α) (x : α) (o : Op) (h : f o = none) : one z f x o = x := by
  unfold one
  rw [h]
  split <;> rfl
theorem one_some {α : Type} [DecidableEq α] (z : α) (f : Op → Option α) (x v : α) (o : Op) (h : f o = some v) : one z f x o = if x = z then x else v := by
  unfold one
  rw [h]
  rfl
theorem ones_lesson (code : Int) (hc : code = 3 ∨ code = 4) (l : Lk) (o : Op) :
    lesson Pl.nm code l o = ⟨one 0 (F1 code) l.mru o, one 0 (F5 code) l.magic o, one 0 (F17 code) l.mrru o, one false (F18 code) l.short o, one [] (F19 code) l.disc o, one 0 (F23 code) l.num o⟩ := by
  obtain ⟨a, b, c, s, d, n⟩ := l
  by_cases hr : right o = true
  · rcases hc with rfl | rfl
    · unfold lesson
      rw [if_pos hr, if_neg (by decide)]
      unfold taught one F1 F5 F17 F18 F19 F23
      simp only [hr, true_and]
      by_cases k1 : o.1 = 1
      · simp [k1]
        split <;> split <;> simp_all
      · by_cases k5 : o.1 = 5
        · simp [k5]
          split <;> split <;> simp_all
        · by_cases k17 : o.1 = 17
          · simp [k17]
            split <;> split <;> simp_all
          · by_cases k18 : o.1 = 18
            · simp [k18]
            · by_cases k19 : o.1 = 19
              · simp [k19]
                split <;> simp_all
              · by_cases k23 : o.1 = 23
                · simp [k23]
                  split <;> simp_all
                · simp [k1, k5, k17, k18, k19, k23]
    · unfold lesson
      rw [if_pos hr, if_pos rfl]
      unfold without one F1 F5 F17 F18 F19 F23
      simp only [hr, true_and]
      by_cases k1 : o.1 = 1
      · simp [k1]
        omega
      · by_cases k5 : o.1 = 5
        · simp [k5]
          omega
        · by_cases k17 : o.1 = 17
          · simp [k17]
            omega
          · by_cases k18 : o.1 = 18
            · simp [k18]
            · by_cases k19 : o.1 = 19
              · simp [k19]
              · by_cases k23 : o.1 = 23
                · simp [k23]
                  omega
                · simp [k1, k5, k17, k18, k19, k23]
  · unfold lesson
    rw [if_neg hr]
    unfold one F1 F5 F17 F18 F19 F23
    simp [hr]
theorem learns_parts (code : Int) (hc : code = 3 ∨ code = 4) (os : List Op) : ∀ l, learns Pl.nm code l os = parts code l os := by
  induction os with
  | nil => exact fun l => rfl
  | cons o r ih =>
    intro l
    show learns Pl.nm code (lesson Pl.nm code l o) r = _
    rw [ih, ones_lesson code hc]
    rfl
theorem learns_again (code : Int) (hc : code = 3 ∨ code = 4) (os : List Op) (l : Lk) : learns Pl.nm code (learns Pl.nm code l os) os = learns Pl.nm code l os := by
  rw [learns_parts code hc, learns_parts code hc]
  unfold parts
  simp only [fld_again]
theorem fld_keep {α : Type} [DecidableEq α] (z : α) (f : Op → Option α) (P : α → Prop) (hf : ∀ o v, f o = some v → P v) (os : List Op) : ∀ x, P x → P (fld z f x os) := by
  induction os with
  | nil => exact fun x h => h
  | cons o r ih =>
    intro x h
    refine ih _ ?_
    show P (if x = z then x else (f o).getD x)
    split
    · exact h
    · cases e : f o with
      | none => exact h
      | some v => exact hf o v e
theorem right_length (o : Op) (h : right o = true) : (o.1 = 5 → o.2.length = 4) ∧ (o.1 = 23 → o.2.length = 2) ∧ (o.1 = 19 → o.2.length ≤ 20) := by
  refine ⟨fun k => ?_, fun k => ?_, fun k => ?_⟩ <;> simp [right, k] at h <;> omega
theorem may_learns (code : Int) (hc : code = 3 ∨ code = 4) (os : List Op) (l : Lk) (h : may l = true) : may (learns Pl.nm code l os) = true := by
  rw [learns_parts code hc]
  obtain ⟨g1, g2, g3, g4, g5, g6, g7⟩ := (may_iff l).1 h
  have su : ∀ x : Int, unit x = true → size x = true := fun x hx => by unfold size; rw [hx, Bool.or_true]
  have s0 : size 0 = true := rfl
  rw [may_iff]
  refine ⟨fld_keep 0 (F1 code) (fun x => size x = true) (fun o v e => ?_) os _ g1, fld_keep 0 (F17 code) (fun x => size x = true) (fun o v e => ?_) os _ g2, (fld_keep 0 (F5 code) (fun x => 0 ≤ x ∧ x ≤ 4294967295) (fun o v e => ?_) os _ ⟨g3, g4⟩).1, (fld_keep 0 (F5 code) (fun x => 0 ≤ x ∧ x ≤ 4294967295) (fun o v e => ?_) os _ ⟨g3, g4⟩).2,
    fld_keep [] (F19 code) (fun x => x.length ≤ 20) (fun o v e => ?_) os _ g5, (fld_keep 0 (F23 code) (fun x => 0 ≤ x ∧ x ≤ 65535) (fun o v e => ?_) os _ ⟨g6, g7⟩).1, (fld_keep 0 (F23 code) (fun x => 0 ≤ x ∧ x ≤ 65535) (fun o v e => ?_) os _ ⟨g6, g7⟩).2⟩
  · unfold F1 at e
    split at e
    · split at e
      · cases e; exact s0
      · split at e
        · cases e; exact su _ (by assumption)
        · cases e
    · cases e
  · unfold F17 at e
    split at e
    · split at e
      · cases e; exact s0
      · split at e
        · cases e; exact su _ (by assumption)
        · cases e
    · cases e
  all_goals
    first
    | (unfold F5 at e
       split at e
       · rename_i hk
         have hl := (right_length o hk.1).1 hk.2
         have hb := Pl.nm_bounds o.2 (by omega)
         rw [hl] at hb
         split at e
         · cases e; omega
         · split at e
           · cases e; omega
           · cases e
       · cases e)
    | (unfold F23 at e
       split at e
       · rename_i hk
         have hl := (right_length o hk.1).2.1 hk.2
         have hb := Pl.nm_bounds o.2 (by omega)
         rw [hl] at hb
         split at e
         · cases e; omega
         · cases e; omega
       · cases e)
    | (unfold F19 at e
       split at e
       · rename_i hk
         have hl := (right_length o hk.1).2.2 hk.2
         split at e
         · cases e; simp
         · cases e; exact hl
       · cases e)
end Go.Proofs.Ytiadndcodjpijaa.Pol
