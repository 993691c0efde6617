/-
  Stage 14, plain: what a link asks for is taken as it; what was learnt.
-/
import Derived.Test.YtiadndcodjpijaaPoMath
namespace Go.Proofs.Ytiadndcodjpijaa.Pol
abbrev nm := Pl.nm
theorem nm_num (x : Int) (m : Nat) (hm : m ≤ 6) (h0 : 0 ≤ x) (h1 : x < ((256 ^ m : Nat) : Int)) : Pl.nm (be m x.toNat) = x := by
  rw [Pl.nm_be m _ hm (by omega), Int.toNat_of_nonneg h0]
theorem take_opt1 (s : Lk) (x : Int) (hs : s.mru = 0) (h0 : 0 ≤ x) (h1 : x < 65536) : (opt 1 x 2).foldl (takes Pl.nm) s = { s with mru := x } := by
  unfold opt
  split
  · rename_i h
    subst h
    cases s
    simp only at hs
    simp [hs]
  · simp [takes, nm_num x 2 (by omega) h0 (by simpa using h1)]
theorem take_opt5 (s : Lk) (x : Int) (hs : s.magic = 0) (h0 : 0 ≤ x) (h1 : x ≤ 4294967295) : (opt 5 x 4).foldl (takes Pl.nm) s = { s with magic := x } := by
  unfold opt
  split
  · rename_i h
    subst h
    cases s
    simp only at hs
    simp [hs]
  · simp [takes, nm_num x 4 (by omega) h0 (by omega)]
theorem take_opt17 (s : Lk) (x : Int) (hs : s.mrru = 0) (h0 : 0 ≤ x) (h1 : x < 65536) : (opt 17 x 2).foldl (takes Pl.nm) s = { s with mrru := x } := by
  unfold opt
  split
  · rename_i h
    subst h
    cases s
    simp only at hs
    simp [hs]
  · simp [takes, nm_num x 2 (by omega) h0 (by simpa using h1)]
theorem take_opt23 (s : Lk) (x : Int) (hs : s.num = 0) (h0 : 0 ≤ x) (h1 : x < 65536) : (opt 23 x 2).foldl (takes Pl.nm) s = { s with num := x } := by
  unfold opt
  split
  · rename_i h
    subst h
    cases s
    simp only at hs
    simp [hs]
  · simp [takes, nm_num x 2 (by omega) h0 (by simpa using h1)]
theorem take_opt18 (s : Lk) (b : Bool) (hs : s.short = false) : (if b then [((18, []) : Op)] else []).foldl (takes Pl.nm) s = { s with short := b } := by
  cases b
  · cases s
    simp only at hs
    simp [hs]
  · simp [takes]
theorem take_opt19 (s : Lk) (d : List UInt8) (hs : s.disc = []) : (if d = [] then [] else [((19, d) : Op)]).foldl (takes Pl.nm) s = { s with disc := d } := by
  split
  · rename_i h
    subst h
    cases s
    simp only at hs
    simp [hs]
  · simp [takes]
theorem allFine_of (os : List Op) (hr : ∀ o ∈ os, right o = true) (hn : (os.map (·.1)).Nodup) : ∀ n, n ≤ os.length → allFine os n = true
  | 0, _ => rfl
  | n + 1, h => by
    have e : fine os n = true := by
      unfold fine
      rw [hr _ (g_mem os n (by omega)), twice_none os hn n (by omega)]
      rfl
    unfold allFine
    rw [allFine_of os hr hn n (by omega), e]
    rfl
/-- What a link asks for is taken as it. -/
theorem taken_asks (a : Lk) (ha : may a = true) : taken Pl.nm (asks a) = (a, 0) := by
  obtain ⟨g1, g2, g3, g4, g5, g6, g7⟩ := (may_iff a).1 ha
  have u : ∀ x, size x = true → 0 ≤ x ∧ x < 65536 := fun x hx => by rcases (size_iff x).1 hx with h | h <;> omega
  have hf : (asks a).foldl (takes Pl.nm) zero = a := by
    unfold asks
    rw [List.foldl_append, List.foldl_append, List.foldl_append, List.foldl_append, List.foldl_append]
    rw [take_opt1 _ _ rfl (u _ g1).1 (u _ g1).2, take_opt5 _ _ rfl g3 g4, take_opt17 _ _ rfl (u _ g2).1 (u _ g2).2, take_opt18 _ _ rfl, take_opt19 _ _ rfl, take_opt23 _ _ rfl g6 (by omega)]
  unfold taken
  rw [hf, ha, allFine_of _ (right_asks a ha) (asks_kinds a) _ (Nat.le_refl _)]
  rfl
/-- What was rejected, what was naked, of what a link asks for. -/
theorem learn_short (a : Lk) (ha : may a = true) : learn Pl.nm a 4 [(18, [])] = ({ a with short := false }, 0) := by
  unfold learn
  rw [ha]
  simp [learns, lesson, right, without]
theorem learn_magic (a : Lk) (ha : may a = true) (hm : a.magic ≠ 0) (t : Int) (h0 : 1 ≤ t) (h1 : t ≤ 4294967295) : learn Pl.nm a 3 [(5, be 4 t.toNat)] = ({ a with magic := t }, 0) := by
  have e := nm_num t 4 (by omega) (by omega) (by omega)
  unfold learn
  rw [ha]
  have ht : t ≠ 0 := by omega
  simp [learns, lesson, right, be_length, taught, e, hm, ht]
/-- One field of a link, taught by a list. -/
def fld {α : Type} [DecidableEq α] (z : α) (f : Op → Option α) (x : α) (os : List Op) : α := os.foldl (fun x o => if x = z then x else (f o).getD x) x
theorem fld_zero {α : Type} [DecidableEq α] (z : α) (f : Op → Option α) (os : List Op) : fld z f z os = z := by
  induction os with
  | nil => rfl
  | cons o r ih =>
    show fld z f (if z = z then z else (f o).getD z) r = z
    rw [if_pos rfl, ih]
theorem fld_two {α : Type} [DecidableEq α] (z : α) (f : Op → Option α) (os : List Op) : ∀ x y, x ≠ z → y ≠ z → (fld z f x os = x ∧ fld z f y os = y) ∨ fld z f x os = fld z f y os := by
  induction os with
  | nil => exact fun x y _ _ => .inl ⟨rfl, rfl⟩
  | cons o r ih =>
    intro x y hx hy
    have ex : fld z f x (o :: r) = fld z f ((f o).getD x) r := by
      show fld z f (if x = z then x else (f o).getD x) r = _
      rw [if_neg hx]
    have ey : fld z f y (o :: r) = fld z f ((f o).getD y) r := by
      show fld z f (if y = z then y else (f o).getD y) r = _
      rw [if_neg hy]
    rw [ex, ey]
    cases h : f o with
    | none => simpa using ih x y hx hy
    | some v => exact .inr rfl
theorem fld_again {α : Type} [DecidableEq α] (z : α) (f : Op → Option α) (os : List Op) (x : α) : fld z f (fld z f x os) os = fld z f x os := by
  by_cases hx : x = z
  · rw [hx, fld_zero, fld_zero]
  · by_cases hy : fld z f x os = z
    · rw [hy, fld_zero]
    · rcases fld_two z f os x _ hx hy with ⟨_, h⟩ | h
      · exact h
      · exact h.symm
end Go.Proofs.Ytiadndcodjpijaa.Pol
