/-
  What the second form's premise gives: no text that comes in is longer than the bound, no slice has more places.
-/
import Derived.Test.YtaagfmnpeimakaaDoorRows
import Derived.SliceStrings
namespace Go.Proofs.YtaagfmnpeimakaaDoor
open Go.ChangeShapes Go.WideShapes
/-- What is in a list weighs no more than the list. -/
theorem weighs_in {H : Type} {d : DataW H} {l : List (DataW H)} (h : d ∈ l) : Rows.uptoBulk d ≤ Rows.uptoBulkAll l := by
  induction l with
  | nil => cases h
  | cons x r ih =>
    have e : Rows.uptoBulkAll (x :: r) = Rows.uptoBulk x + Rows.uptoBulkAll r := by simp only [Rows.uptoBulkAll]
    rcases List.mem_cons.1 h with rfl | h
    · omega
    · have := ih h; omega
theorem weighs_one {H : Type} (d : DataW H) : 1 ≤ Rows.uptoBulk d := by
  cases d with
  | lit l => cases l <;> simp [Rows.uptoBulk]
  | _ => simp [Rows.uptoBulk]
theorem weighs_length {H : Type} (l : List (DataW H)) : l.length ≤ Rows.uptoBulkAll l := by
  induction l with
  | nil => simp
  | cons x r ih =>
    have e : Rows.uptoBulkAll (x :: r) = Rows.uptoBulk x + Rows.uptoBulkAll r := by simp only [Rows.uptoBulkAll]
    have := weighs_one x
    simp; omega
theorem within {H : Type} {ds gs : List (DataW H)} (hk : Rows.uptoSmall H (ds ++ gs) = true) {d : DataW H} (h : d ∈ ds) : Rows.uptoBulk d ≤ 1048576 :=
  Nat.le_trans (weighs_in (List.mem_append_left _ h)) (of_decide_eq_true hk)
theorem text_within {H : Type} {ds gs : List (DataW H)} (hk : Rows.uptoSmall H (ds ++ gs) = true) {s : ByteArray} (h : DataW.lit (.string s.data.toList) ∈ ds) : s.size ≤ 1048576 := by
  have h := within hk h
  have e : Rows.uptoBulk (DataW.lit (H := H) (.string s.data.toList)) = s.data.toList.length + 1 := by simp only [Rows.uptoBulk]
  have e2 : s.data.toList.length = s.size := by rw [Array.length_toList]; rfl
  omega
theorem slice_within {H : Type} {ds gs : List (DataW H)} (hk : Rows.uptoSmall H (ds ++ gs) = true) {xs ys : List (DataW H)} (h : DataW.slice xs ys ∈ ds) : Rows.uptoBulkAll xs ≤ 1048576 ∧ Rows.uptoBulkAll ys ≤ 1048576 := by
  have h := within hk h
  have e : Rows.uptoBulk (DataW.slice xs ys) = Rows.uptoBulkAll xs + Rows.uptoBulkAll ys + 1 := by simp only [Rows.uptoBulk]
  omega
theorem strs_within {H : Type} {ss : List ByteArray} (h : Rows.uptoBulkAll (strs (H := H) ss) ≤ 1048576) : ss.length ≤ 1048576 ∧ ∀ s ∈ ss, s.size ≤ 1048576 := by
  have hl := weighs_length (strs (H := H) ss)
  have e : (strs (H := H) ss).length = ss.length := by simp [strs]
  refine ⟨by omega, fun s hs => ?_⟩
  have hm : DataW.lit (H := H) (.string s.data.toList) ∈ strs (H := H) ss := by
    unfold strs
    exact List.mem_map.2 ⟨s, hs, rfl⟩
  have := weighs_in hm
  have e : Rows.uptoBulk (DataW.lit (H := H) (.string s.data.toList)) = s.data.toList.length + 1 := by simp only [Rows.uptoBulk]
  have e2 : s.data.toList.length = s.size := by rw [Array.length_toList]; rfl
  omega
/-- A slice of texts that came in: nil, or a row of cells that hold them. -/
def TextsIn (W : World) (v : Value) (ss : List ByteArray) : Prop := (v = .slice none 0 0 ∧ ss = []) ∨
  ∃ a cap, v = .slice (some a) ss.length cap ∧ ∀ i, i < ss.length → W.cell? (a.add i) = some (.string (ss.getD i ByteArray.empty))
end Go.Proofs.YtaagfmnpeimakaaDoor
