/-
  Plain lists: options as bytes, and back; the first of a kind.
-/
namespace Go.Proofs.Ytiadndcodjpijaa.Opt
/-- A kind and its data. -/
abbrev Op := Int × List UInt8
def kindOk (o : Op) : Bool := decide (0 ≤ o.1) && decide (o.1 ≤ 255)
def short (o : Op) : Bool := decide (o.2.length ≤ 253)
def one (o : Op) : List UInt8 := UInt8.ofNat o.1.toNat :: UInt8.ofNat (o.2.length + 2) :: o.2
def wires (os : List Op) : List UInt8 := os.flatMap one
def fits (os : List Op) : Bool := os.all short && decide ((wires os).length ≤ 2048)
def code (os : List Op) : Int := if os.all kindOk then (if fits os then 0 else 401) else 400
def put (os : List Op) : List UInt8 := if code os = 0 then wires os else []
theorem one_length (o : Op) : (one o).length = o.2.length + 2 := rfl
theorem wires_nil : wires [] = [] := rfl
theorem wires_append (a b : List Op) : wires (a ++ b) = wires a ++ wires b := by simp [wires]
theorem wires_cons (o : Op) (r : List Op) : wires (o :: r) = one o ++ wires r := by simp [wires]
theorem take_snoc (os : List Op) (k : Nat) (h : k < os.length) : os.take (k + 1) = os.take k ++ [os[k]] := List.take_succ_eq_append_getElem h
theorem wires_snoc (os : List Op) (k : Nat) (h : k < os.length) : wires (os.take (k + 1)) = wires (os.take k) ++ one os[k] := by
  rw [take_snoc os k h, wires_append]; simp [wires]
theorem wires_take_le (os : List Op) (k : Nat) : (wires (os.take k)).length ≤ (wires os).length := by
  have := wires_append (os.take k) (os.drop k)
  rw [List.take_append_drop] at this
  rw [this, List.length_append]; omega
theorem wires_ge (os : List Op) : 2 * os.length ≤ (wires os).length := by
  induction os with
  | nil => simp
  | cons o r ih => rw [wires_cons, List.length_append, one_length, List.length_cons]; omega
theorem fits_take (os : List Op) (k : Nat) (h : fits (os.take k) = false) : fits os = false := by
  cases hf : fits os with
  | false => rfl
  | true =>
    exfalso
    unfold fits at hf h
    rw [Bool.and_eq_true, List.all_eq_true, decide_eq_true_iff] at hf
    rw [Bool.and_eq_false_iff] at h
    rcases h with h | h
    · have : (os.take k).all short = true := List.all_eq_true.2 fun o ho => hf.1 o (List.mem_of_mem_take ho)
      rw [h] at this; cases this
    · have := wires_take_le os k
      have h := of_decide_eq_false h
      omega
theorem fits_snoc (os : List Op) (k : Nat) (h : k < os.length) : fits (os.take (k + 1)) = ((os.take k).all short && short os[k] && decide ((wires (os.take k)).length + (os[k].2.length + 2) ≤ 2048)) := by
  unfold fits
  rw [wires_snoc os k h, take_snoc os k h, List.all_append, List.length_append, one_length]
  simp
theorem fits_nil : fits [] = true := rfl
theorem fits_short (os : List Op) (h : fits os = true) : os.all short = true ∧ (wires os).length ≤ 2048 := by
  unfold fits at h
  rw [Bool.and_eq_true, decide_eq_true_iff] at h
  exact h
theorem fits_two (os : List Op) (k : Nat) (h : k < os.length) (hf : fits (os.take k) = true) (h1 : os[k].2.length ≤ 253) (h2 : (wires (os.take k)).length + (os[k].2.length + 2) ≤ 2048) : fits (os.take (k + 1)) = true := by
  rw [fits_snoc os k h, (fits_short _ hf).1]
  simp [short, h1, h2]
theorem fits_far (os : List Op) (k : Nat) (h : k < os.length) (h1 : 253 < os[k].2.length ∨ 2048 < (wires (os.take k)).length + (os[k].2.length + 2)) : fits (os.take (k + 1)) = false := by
  rw [fits_snoc os k h]
  rcases h1 with h1 | h1
  · have : short os[k] = false := decide_eq_false (by omega)
    simp [this]
  · rw [decide_eq_false (by omega), Bool.and_false]
/-- The ways of a Put. -/
theorem code_ways (os : List Op) : (os.all kindOk = false ∧ code os = 400) ∨ (os.all kindOk = true ∧ fits os = false ∧ code os = 401) ∨ (os.all kindOk = true ∧ fits os = true ∧ code os = 0) := by
  unfold code
  cases os.all kindOk <;> cases fits os <;> simp
theorem code_far (os : List Op) (h : os.all kindOk = true) (k : Nat) (hf : fits (os.take (k + 1)) = false) : code os = 401 := by
  unfold code
  rw [h, fits_take os _ hf]; rfl
theorem code_good (os : List Op) (h : os.all kindOk = true) (hf : fits os = true) : code os = 0 := by
  unfold code
  rw [h, hf]; rfl
theorem code_bad (os : List Op) (h : os.all kindOk = false) : code os = 400 := by
  unfold code
  rw [h]; rfl
/-- Bytes as options. -/
def parse : List UInt8 → Option (List Op)
  | [] => some []
  | [_] => none
  | a :: n :: r => if n.toNat < 2 ∨ r.length + 2 < n.toNat then none else (parse (r.drop (n.toNat - 2))).map (((a.toNat : Int), r.take (n.toNat - 2)) :: ·)
termination_by l => l.length
decreasing_by simp; omega
def get (l : List UInt8) : List Op × Int := if 2048 < l.length then ([], 401) else match parse l with | none => ([], 400) | some os => (os, 0)
theorem get_long (l : List UInt8) (h : 2048 < l.length) : get l = ([], 401) := by unfold get; rw [if_pos h]
theorem get_some (l : List UInt8) (h : l.length ≤ 2048) (os : List Op) (e : parse l = some os) : get l = (os, 0) := by unfold get; rw [if_neg (by omega), e]
theorem get_bad (l : List UInt8) (h : l.length ≤ 2048) (e : parse l = none) : get l = ([], 400) := by unfold get; rw [if_neg (by omega), e]
theorem parse_nil : parse [] = some [] := by rw [parse]
theorem parse_one (l : List UInt8) (h : l.length = 1) : parse l = none := by
  match l, h with
  | [_], _ => rw [parse]
theorem parse_bad (l : List UInt8) (h : 2 ≤ l.length) (hs : (l[1]'(by omega)).toNat < 2 ∨ l.length < (l[1]'(by omega)).toNat) : parse l = none := by
  match l, h, hs with
  | a :: n :: r, _, hs =>
    rw [parse, if_pos]
    simpa using hs
theorem parse_good (l : List UInt8) (h : 2 ≤ l.length) (h1 : 2 ≤ (l[1]'(by omega)).toNat) (h2 : (l[1]'(by omega)).toNat ≤ l.length) :
    parse l = (parse (l.drop (l[1]'(by omega)).toNat)).map ((((l[0]'(by omega)).toNat : Int), (l.take (l[1]'(by omega)).toNat).drop 2) :: ·) := by
  match l, h, h1, h2 with
  | a :: n :: r, _, h1, h2 =>
    simp only [List.getElem_cons_succ, List.getElem_cons_zero, List.length_cons] at h1 h2 ⊢
    obtain ⟨m, hm⟩ : ∃ m, n.toNat = m + 2 := ⟨n.toNat - 2, by omega⟩
    rw [parse, if_neg (by omega), hm]
    simp
theorem parse_wires (os : List Op) (h : ∀ o ∈ os, kindOk o = true ∧ short o = true) : parse (wires os) = some os := by
  induction os with
  | nil => rw [wires_nil, parse_nil]
  | cons o r ih =>
    obtain ⟨hk, hs⟩ := h o (by simp)
    obtain ⟨z, d⟩ := o
    unfold kindOk at hk
    unfold short at hs
    simp only [Bool.and_eq_true, decide_eq_true_eq] at hk hs
    have ih := ih fun o ho => h o (List.mem_cons_of_mem _ ho)
    rw [wires_cons]
    show parse (UInt8.ofNat z.toNat :: UInt8.ofNat (d.length + 2) :: (d ++ wires r)) = _
    have e : (UInt8.ofNat (d.length + 2)).toNat = d.length + 2 := by simp; omega
    have e2 : ((UInt8.ofNat z.toNat).toNat : Int) = z := by simp; omega
    rw [parse, e, if_neg (by simp), e2]
    simp [ih]
theorem wires_parse : ∀ (n : Nat) (l : List UInt8) (os : List Op), l.length ≤ n → parse l = some os → wires os = l ∧ ∀ o ∈ os, kindOk o = true ∧ short o = true := by
  intro n
  induction n with
  | zero =>
    intro l os hl h
    obtain rfl : l = [] := List.length_eq_zero_iff.1 (by omega)
    rw [parse_nil] at h
    simp only [Option.some.injEq] at h
    subst h
    exact ⟨rfl, by simp⟩
  | succ n ih =>
    intro l os hl h
    match l, hl, h with
    | [], _, h =>
      rw [parse_nil] at h
      simp only [Option.some.injEq] at h
      subst h
      exact ⟨rfl, by simp⟩
    | [x], _, h => rw [parse] at h; cases h
    | a :: m :: r, hl, h =>
      rw [parse] at h
      split at h
      · cases h
      · rename_i hn
        cases hp : parse (r.drop (m.toNat - 2)) with
        | none => rw [hp] at h; cases h
        | some q =>
          rw [hp] at h
          simp only [Option.map_some, Option.some.injEq] at h
          subst h
          obtain ⟨h1, h2⟩ := ih _ q (by simp at hl ⊢; omega) hp
          have hlen : (r.take (m.toNat - 2)).length = m.toNat - 2 := by rw [List.length_take]; omega
          have hm := m.toNat_lt
          have ha := a.toNat_lt
          refine ⟨?_, ?_⟩
          · rw [wires_cons, h1]
            unfold one
            simp only [hlen]
            have e1 : UInt8.ofNat (m.toNat - 2 + 2) = m := by rw [show m.toNat - 2 + 2 = m.toNat by omega]; simp
            rw [e1]
            simp
          · intro o ho
            rcases List.mem_cons.1 ho with rfl | ho
            · unfold kindOk short
              simp only [hlen, Bool.and_eq_true, decide_eq_true_eq]
              omega
            · exact h2 o ho
/-- What was put comes back. -/
theorem get_put (os : List Op) (h : code os = 0) : get (wires os) = (os, 0) := by
  rcases code_ways os with ⟨_, h2⟩ | ⟨_, _, h2⟩ | ⟨h1, h3, _⟩
  · omega
  · omega
  · obtain ⟨h4, h5⟩ := fits_short os h3
    unfold get
    rw [if_neg (by omega), parse_wires os fun o ho => ⟨List.all_eq_true.1 h1 o ho, List.all_eq_true.1 h4 o ho⟩]
/-- What is taken is written as it stood. -/
theorem put_get (l : List UInt8) (h : (get l).2 = 0) : wires (get l).1 = l ∧ code (get l).1 = 0 := by
  unfold get at *
  split at h
  · cases h
  · rename_i hl
    rw [if_neg hl]
    cases hp : parse l with
    | none => rw [hp] at h; cases h
    | some os =>
      obtain ⟨h1, h2⟩ := wires_parse l.length l os (Nat.le_refl _) hp
      refine ⟨h1, ?_⟩
      unfold code fits
      simp only
      rw [List.all_eq_true.2 fun o ho => (h2 o ho).1, List.all_eq_true.2 fun o ho => (h2 o ho).2, h1, decide_eq_true (by omega)]
      rfl
theorem get_none (l : List UInt8) (h : (get l).2 ≠ 0) : (get l).1 = [] := by
  unfold get at *
  split
  · rfl
  · rename_i hl
    rw [if_neg hl] at h
    cases hp : parse l with
    | none => rfl
    | some os => rw [hp] at h; exact absurd rfl h
theorem get_count (l : List UInt8) : 2 * (get l).1.length ≤ 2048 := by
  by_cases h : (get l).2 = 0
  · have := (put_get l h).1
    have h2 := wires_ge (get l).1
    rw [this] at h2
    have : l.length ≤ 2048 := by
      unfold get at h
      split at h
      · cases h
      · omega
    omega
  · rw [get_none l h]; simp
/-- The parse so far, and what is left. -/
def goes (acc : List Op) (rest : List UInt8) : Option (List Op) := (parse rest).map (acc ++ ·)
theorem goes_start (l : List UInt8) : goes [] l = parse l := by unfold goes; cases parse l <;> simp
theorem goes_end (acc : List Op) : goes acc [] = some acc := by unfold goes; rw [parse_nil]; simp
theorem goes_one (acc : List Op) (l : List UInt8) (h : l.length = 1) : goes acc l = none := by unfold goes; rw [parse_one l h]; rfl
theorem goes_bad (acc : List Op) (l : List UInt8) (h : 2 ≤ l.length) (hs : (l[1]'(by omega)).toNat < 2 ∨ l.length < (l[1]'(by omega)).toNat) : goes acc l = none := by unfold goes; rw [parse_bad l h hs]; rfl
theorem goes_good (acc : List Op) (l : List UInt8) (h : 2 ≤ l.length) (h1 : 2 ≤ (l[1]'(by omega)).toNat) (h2 : (l[1]'(by omega)).toNat ≤ l.length) :
    goes acc l = goes (acc ++ [(((l[0]'(by omega)).toNat : Int), (l.take (l[1]'(by omega)).toNat).drop 2)]) (l.drop (l[1]'(by omega)).toNat) := by
  unfold goes
  rw [parse_good l h h1 h2]
  cases parse (l.drop (l[1]'(by omega)).toNat) <;> simp
/-- 'z' is the place of the first of the kind from place i on; -1: none. -/
def FindFrom (os : List Op) (k : Int) (i : Nat) (z : Int) : Prop :=
  (z = -1 ∧ ∀ j (h : j < os.length), i ≤ j → os[j].1 ≠ k) ∨ ∃ n : Nat, z = (n : Int) ∧ i ≤ n ∧ ∃ h : n < os.length, os[n].1 = k ∧ ∀ j (h : j < os.length), i ≤ j → j < n → os[j].1 ≠ k
theorem find_end (os : List Op) (k : Int) : FindFrom os k os.length (-1) := .inl ⟨rfl, fun j h hj => by omega⟩
theorem find_hit (os : List Op) (k : Int) (i : Nat) (h : i < os.length) (e : os[i].1 = k) : FindFrom os k i i := .inr ⟨i, rfl, Nat.le_refl _, h, e, fun j h1 h2 h3 => by omega⟩
theorem find_miss (os : List Op) (k : Int) (i : Nat) (h : i < os.length) (e : os[i].1 ≠ k) (z : Int) (hz : FindFrom os k (i + 1) z) : FindFrom os k i z := by
  rcases hz with ⟨h1, h2⟩ | ⟨n, h1, h2, h3, h4, h5⟩
  · refine .inl ⟨h1, fun j hj hij => ?_⟩
    by_cases hq : j = i
    · subst hq; exact e
    · exact h2 j hj (by omega)
  · refine .inr ⟨n, h1, by omega, h3, h4, fun j hj hij hjn => ?_⟩
    by_cases hq : j = i
    · subst hq; exact e
    · exact h5 j hj (by omega) hjn
theorem find_one (os : List Op) (k : Int) (i : Nat) (y z : Int) (hy : FindFrom os k i y) (hz : FindFrom os k i z) : y = z := by
  rcases hy with ⟨h1, h2⟩ | ⟨n, h1, h2, h3, h4, h5⟩
  · rcases hz with ⟨g1, g2⟩ | ⟨m, g1, g2, g3, g4, g5⟩
    · omega
    · exact absurd g4 (h2 m g3 g2)
  · rcases hz with ⟨g1, g2⟩ | ⟨m, g1, g2, g3, g4, g5⟩
    · exact absurd h4 (g2 n h3 h2)
    · rcases Nat.lt_trichotomy n m with h | h | h
      · exact absurd h4 (g5 n h3 h2 h)
      · omega
      · exact absurd g4 (h5 m g3 g2 h)
/-- The place of the first that the test takes; -1: none. -/
def first (p : Op → Bool) (os : List Op) : Int := if os.findIdx p < os.length then (os.findIdx p : Nat) else -1
theorem first_hit (p : Op → Bool) (os : List Op) (k : Nat) (h : k < os.length) (e : p os[k] = true) (hm : ∀ j (h : j < os.length), j < k → p os[j] = false) : first p os = k := by
  have e : os.findIdx p = k := by
    rw [List.findIdx_eq h]
    exact ⟨e, fun j hj => hm j (by omega) hj⟩
  unfold first
  rw [e, if_pos h]
theorem first_miss (p : Op → Bool) (os : List Op) (hm : ∀ j (h : j < os.length), p os[j] = false) : first p os = -1 := by
  unfold first
  rw [if_neg]
  intro h
  have := List.findIdx_getElem (p := p) (xs := os) (w := h)
  rw [hm] at this
  cases this
theorem first_any (p : Op → Bool) (os : List Op) : decide (0 ≤ first p os) = os.any p := by
  unfold first
  split
  · rename_i h
    have h2 := List.findIdx_getElem (p := p) (xs := os) (w := h)
    rw [List.any_eq_true.2 ⟨_, List.getElem_mem h, h2⟩, decide_eq_true (by omega)]
  · rename_i h
    have h2 := List.findIdx_eq_length.1 (Nat.le_antisymm (List.findIdx_le_length (p := p) (xs := os)) (by omega))
    rw [List.any_eq_false.2 fun x hx => by rw [h2 x hx]; simp]
    rfl
def find (k : Int) (os : List Op) : Int := first (fun o => o.1 == k) os
theorem find_from (k : Int) (os : List Op) : FindFrom os k 0 (find k os) := by
  unfold find first
  split
  · rename_i h
    refine .inr ⟨_, rfl, Nat.zero_le _, h, ?_, fun j hj _ hjn => ?_⟩
    · have := List.findIdx_getElem (p := fun o : Op => o.1 == k) (xs := os) (w := h)
      simpa using this
    · have := List.not_of_lt_findIdx hjn
      simpa using this
  · rename_i h
    refine .inl ⟨rfl, fun j hj _ => ?_⟩
    have h2 := List.findIdx_eq_length.1 (Nat.le_antisymm (List.findIdx_le_length (p := fun o : Op => o.1 == k) (xs := os)) (by omega)) os[j] (List.getElem_mem hj)
    simpa using h2
theorem bad_any (os : List Op) : os.any (fun o => !kindOk o) = !(os.all kindOk) := by
  induction os with
  | nil => rfl
  | cons o r ih => simp only [List.any_cons, List.all_cons, ih, Bool.not_and]
theorem find_eq (k : Int) (os : List Op) (z : Int) (h : FindFrom os k 0 z) : find k os = z := find_one os k 0 _ _ (find_from k os) h
theorem find_nil (k : Int) : find k [] = -1 := rfl
theorem find_ways (k : Int) (os : List Op) : (find k os = -1 ∧ find k (os ++ [(k, [])]) = os.length) ∨
    ∃ n : Nat, find k os = n ∧ ∃ h : n < os.length, os[n].1 = k ∧ find k (os.take n) = -1 ∧ find k (os ++ [(k, [])]) = n := by
  rcases find_from k os with ⟨h1, h2⟩ | ⟨n, h1, _, h3, h4, h5⟩
  · refine .inl ⟨h1, find_eq _ _ _ (.inr ⟨os.length, rfl, Nat.zero_le _, by simp, by simp, fun j hj _ hjn => ?_⟩)⟩
    rw [List.getElem_append_left hjn]
    exact h2 j hjn (Nat.zero_le _)
  · refine .inr ⟨n, h1, h3, h4, find_eq _ _ _ (.inl ⟨rfl, fun j hj _ => ?_⟩), find_eq _ _ _ (.inr ⟨n, rfl, Nat.zero_le _, by simp; omega, ?_, fun j hj _ hjn => ?_⟩)⟩
    · rw [List.getElem_take]
      rw [List.length_take] at hj
      exact h5 j (by omega) (Nat.zero_le _) (by omega)
    · rw [List.getElem_append_left h3]; exact h4
    · rw [List.getElem_append_left (by omega)]
      exact h5 j (by omega) (Nat.zero_le _) hjn
end Go.Proofs.Ytiadndcodjpijaa.Opt
