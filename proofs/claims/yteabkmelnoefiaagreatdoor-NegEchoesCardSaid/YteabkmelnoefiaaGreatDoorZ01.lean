/-
  The automaton's table as plain lists: the texts of its places, what each says, one step.
  Plain lists: options as bytes, and back; the first of a kind.
  Plain lists: packets of automata as bytes, and back.
  Stages 14 to 16, plain: which options a link asks for, how options are judged, learnt, taken.
-/
namespace Go.Proofs.YteabkmelnoefiaaGreatDoor.Fsm
def words : List (List UInt8) := [[116, 108, 117], [116, 108, 100], [116, 108, 115], [116, 108, 102], [105, 114, 99], [122, 114, 99], [115, 99, 114], [115, 99, 97], [115, 99, 110], [115, 116, 114], [115, 116, 97], [115, 99, 106], [115, 101, 114]]
def rowT (v : Nat) : List (List UInt8) := match v with
  | 0 => [[50], [105, 114, 99, 44, 115, 99, 114, 47, 54], [45], [45], [45], [45], [45], [45], [45], [45]]
  | 1 => [[45], [45], [48], [116, 108, 115, 47, 49], [48], [49], [49], [49], [49], [116, 108, 100, 47, 49]]
  | 2 => [[116, 108, 115, 47, 49], [49], [105, 114, 99, 44, 115, 99, 114, 47, 54], [51], [53], [53], [54], [55], [56], [57]]
  | 3 => [[48], [116, 108, 102, 47, 48], [50], [50], [52], [52], [105, 114, 99, 44, 115, 116, 114, 47, 52], [105, 114, 99, 44, 115, 116, 114, 47, 52], [105, 114, 99, 44, 115, 116, 114, 47, 52], [116, 108, 100, 44, 105, 114, 99, 44, 115, 116, 114, 47, 52]]
  | 4 => [[45], [45], [45], [45], [115, 116, 114, 47, 52], [115, 116, 114, 47, 53], [115, 99, 114, 47, 54], [115, 99, 114, 47, 54], [115, 99, 114, 47, 56], [45]]
  | 5 => [[45], [45], [45], [45], [116, 108, 102, 47, 50], [116, 108, 102, 47, 51], [116, 108, 102, 47, 51], [116, 108, 102, 47, 51], [116, 108, 102, 47, 51], [45]]
  | 6 => [[45], [45], [115, 116, 97, 47, 50], [105, 114, 99, 44, 115, 99, 114, 44, 115, 99, 97, 47, 56], [52], [53], [115, 99, 97, 47, 56], [115, 99, 97, 44, 116, 108, 117, 47, 57], [115, 99, 97, 47, 56], [116, 108, 100, 44, 115, 99, 114, 44, 115, 99, 97, 47, 56]]
  | 7 => [[45], [45], [115, 116, 97, 47, 50], [105, 114, 99, 44, 115, 99, 114, 44, 115, 99, 110, 47, 54], [52], [53], [115, 99, 110, 47, 54], [115, 99, 110, 47, 55], [115, 99, 110, 47, 54], [116, 108, 100, 44, 115, 99, 114, 44, 115, 99, 110, 47, 54]]
  | 8 => [[45], [45], [115, 116, 97, 47, 50], [115, 116, 97, 47, 51], [52], [53], [105, 114, 99, 47, 55], [115, 99, 114, 47, 54], [105, 114, 99, 44, 116, 108, 117, 47, 57], [116, 108, 100, 44, 115, 99, 114, 47, 54]]
  | 9 => [[45], [45], [115, 116, 97, 47, 50], [115, 116, 97, 47, 51], [52], [53], [105, 114, 99, 44, 115, 99, 114, 47, 54], [115, 99, 114, 47, 54], [105, 114, 99, 44, 115, 99, 114, 47, 56], [116, 108, 100, 44, 115, 99, 114, 47, 54]]
  | 10 => [[45], [45], [115, 116, 97, 47, 50], [115, 116, 97, 47, 51], [115, 116, 97, 47, 52], [115, 116, 97, 47, 53], [115, 116, 97, 47, 54], [115, 116, 97, 47, 54], [115, 116, 97, 47, 54], [116, 108, 100, 44, 122, 114, 99, 44, 115, 116, 97, 47, 53]]
  | 11 => [[45], [45], [50], [51], [116, 108, 102, 47, 50], [116, 108, 102, 47, 51], [54], [54], [56], [116, 108, 100, 44, 115, 99, 114, 47, 54]]
  | 12 => [[45], [45], [115, 99, 106, 47, 50], [115, 99, 106, 47, 51], [115, 99, 106, 47, 52], [115, 99, 106, 47, 53], [115, 99, 106, 47, 54], [115, 99, 106, 47, 55], [115, 99, 106, 47, 56], [115, 99, 106, 47, 57]]
  | 13 => [[45], [45], [50], [51], [52], [53], [54], [54], [56], [57]]
  | 14 => [[45], [45], [116, 108, 102, 47, 50], [116, 108, 102, 47, 51], [116, 108, 102, 47, 50], [116, 108, 102, 47, 51], [116, 108, 102, 47, 51], [116, 108, 102, 47, 51], [116, 108, 102, 47, 51], [116, 108, 100, 44, 105, 114, 99, 44, 115, 116, 114, 47, 53]]
  | 15 => [[45], [45], [50], [51], [52], [53], [54], [55], [56], [115, 101, 114, 47, 57]]
  | _ => []
def tab (v : Nat) : List (Int × List Int × Int) := match v with
  | 0 => [(2, [], 0), (6, [5, 7], 0), (0, [], 1001), (0, [], 1001), (0, [], 1001), (0, [], 1001), (0, [], 1001), (0, [], 1001), (0, [], 1001), (0, [], 1001)]
  | 1 => [(0, [], 1001), (0, [], 1001), (0, [], 0), (1, [3], 0), (0, [], 0), (1, [], 0), (1, [], 0), (1, [], 0), (1, [], 0), (1, [2], 0)]
  | 2 => [(1, [3], 0), (1, [], 0), (6, [5, 7], 0), (3, [], 0), (5, [], 0), (5, [], 0), (6, [], 0), (7, [], 0), (8, [], 0), (9, [], 0)]
  | 3 => [(0, [], 0), (0, [4], 0), (2, [], 0), (2, [], 0), (4, [], 0), (4, [], 0), (4, [5, 10], 0), (4, [5, 10], 0), (4, [5, 10], 0), (4, [2, 5, 10], 0)]
  | 4 => [(0, [], 1001), (0, [], 1001), (0, [], 1001), (0, [], 1001), (4, [10], 0), (5, [10], 0), (6, [7], 0), (6, [7], 0), (8, [7], 0), (0, [], 1001)]
  | 5 => [(0, [], 1001), (0, [], 1001), (0, [], 1001), (0, [], 1001), (2, [4], 0), (3, [4], 0), (3, [4], 0), (3, [4], 0), (3, [4], 0), (0, [], 1001)]
  | 6 => [(0, [], 1001), (0, [], 1001), (2, [11], 0), (8, [5, 7, 8], 0), (4, [], 0), (5, [], 0), (8, [8], 0), (9, [8, 1], 0), (8, [8], 0), (8, [2, 7, 8], 0)]
  | 7 => [(0, [], 1001), (0, [], 1001), (2, [11], 0), (6, [5, 7, 9], 0), (4, [], 0), (5, [], 0), (6, [9], 0), (7, [9], 0), (6, [9], 0), (6, [2, 7, 9], 0)]
  | 8 => [(0, [], 1001), (0, [], 1001), (2, [11], 0), (3, [11], 0), (4, [], 0), (5, [], 0), (7, [5], 0), (6, [7], 0), (9, [5, 1], 0), (6, [2, 7], 0)]
  | 9 => [(0, [], 1001), (0, [], 1001), (2, [11], 0), (3, [11], 0), (4, [], 0), (5, [], 0), (6, [5, 7], 0), (6, [7], 0), (8, [5, 7], 0), (6, [2, 7], 0)]
  | 10 => [(0, [], 1001), (0, [], 1001), (2, [11], 0), (3, [11], 0), (4, [11], 0), (5, [11], 0), (6, [11], 0), (6, [11], 0), (6, [11], 0), (5, [2, 6, 11], 0)]
  | 11 => [(0, [], 1001), (0, [], 1001), (2, [], 0), (3, [], 0), (2, [4], 0), (3, [4], 0), (6, [], 0), (6, [], 0), (8, [], 0), (6, [2, 7], 0)]
  | 12 => [(0, [], 1001), (0, [], 1001), (2, [12], 0), (3, [12], 0), (4, [12], 0), (5, [12], 0), (6, [12], 0), (7, [12], 0), (8, [12], 0), (9, [12], 0)]
  | 13 => [(0, [], 1001), (0, [], 1001), (2, [], 0), (3, [], 0), (4, [], 0), (5, [], 0), (6, [], 0), (6, [], 0), (8, [], 0), (9, [], 0)]
  | 14 => [(0, [], 1001), (0, [], 1001), (2, [4], 0), (3, [4], 0), (2, [4], 0), (3, [4], 0), (3, [4], 0), (3, [4], 0), (3, [4], 0), (5, [2, 5, 10], 0)]
  | 15 => [(0, [], 1001), (0, [], 1001), (2, [], 0), (3, [], 0), (4, [], 0), (5, [], 0), (6, [], 0), (7, [], 0), (8, [], 0), (9, [13], 0)]
  | _ => []
def text (s v : Nat) : List UInt8 := (rowT v).getD s []
def place (s v : Nat) : Int × List Int × Int := (tab v).getD s (0, [], 1000)
/-- One step: the next state, the actions, the error's number. -/
def step (s v : Int) : Int × List Int × Int := if 0 ≤ s ∧ s ≤ 9 ∧ 0 ≤ v ∧ v ≤ 15 then place s.toNat v.toNat else (0, [], 1000)
/-- A word's number. -/
def act (l : List UInt8) : Int := if words.findIdx (· == l) < 13 then (words.findIdx (· == l) : Nat) + 1 else 0
theorem act_hit (l : List UInt8) (k : Nat) (h : k < words.length) (e : words[k] = l) (hm : ∀ j (h : j < words.length), j < k → words[j] ≠ l) : act l = (k : Int) + 1 := by
  have e : words.findIdx (· == l) = k := by
    rw [List.findIdx_eq h]
    exact ⟨by simpa using e, fun j hj => by simpa using hm j (by omega) hj⟩
  unfold act
  rw [e, if_pos (show k < 13 from h)]
theorem act_miss (l : List UInt8) (hm : ∀ j (h : j < words.length), words[j] ≠ l) : act l = 0 := by
  unfold act
  rw [if_neg]
  intro h
  have h2 : words.findIdx (· == l) < words.length := h
  have := List.findIdx_getElem (p := (· == l)) (xs := words) (w := h2)
  exact hm _ h2 (by simpa using this)
theorem row_length (v : Nat) (h : v < 16) : (rowT v).length = 10 := by
  have : ∀ v : Fin 16, (rowT v).length = 10 := by decide +kernel
  exact this ⟨v, h⟩
theorem text_at (s v : Nat) (hs : s < 10) (hv : v < 16) : (rowT v)[s]? = some (text s v) := by
  unfold text
  have := row_length v hv
  rw [List.getD_eq_getElem?_getD, List.getElem?_eq_getElem (by omega)]
  rfl
/-- What a place's text says. -/
def fine (s v : Nat) : Bool := if text s v = [45] then place s v == (0, [], 1001) else
  (place s v).2.2 == 0 && (text s v).length == 4 * (place s v).2.1.length + 1 && decide ((place s v).2.1.length ≤ 3) &&
  (List.range (place s v).2.1.length).all (fun k => act (((text s v).take (4 * k + 3)).drop (4 * k)) == (place s v).2.1.getD k 0) &&
  decide (((text s v).getD (4 * (place s v).2.1.length) 0).toNat = 48 + (place s v).1.toNat) && decide (0 ≤ (place s v).1) && decide ((place s v).1 ≤ 9)
theorem all_fine (s v : Nat) (hs : s < 10) (hv : v < 16) : fine s v = true := by
  have : ∀ s : Fin 10, ∀ v : Fin 16, fine s v = true := by decide +kernel
  exact this ⟨s, hs⟩ ⟨v, hv⟩
theorem place_never (s v : Nat) (hs : s < 10) (hv : v < 16) (h : text s v = [45]) : place s v = (0, [], 1001) := by
  have := all_fine s v hs hv
  unfold fine at this
  rw [if_pos h] at this
  simpa using this
theorem place_text (s v : Nat) (hs : s < 10) (hv : v < 16) (h : text s v ≠ [45]) : ∃ (t : Nat) (L : List Int), t ≤ 9 ∧ place s v = ((t : Int), L, 0) ∧ (text s v).length = 4 * L.length + 1 ∧ L.length ≤ 3 ∧
    (∀ k (h : k < L.length), act (((text s v).take (4 * k + 3)).drop (4 * k)) = L[k]) ∧ ∃ b : UInt8, (text s v)[4 * L.length]? = some b ∧ b.toNat = 48 + t := by
  have := all_fine s v hs hv
  unfold fine at this
  rw [if_neg h] at this
  simp only [Bool.and_eq_true, beq_iff_eq, decide_eq_true_eq, List.all_eq_true, List.mem_range] at this
  obtain ⟨⟨⟨⟨⟨⟨h1, h2⟩, h3⟩, h4⟩, h5⟩, h6⟩, h7⟩ := this
  obtain ⟨t, L, e⟩ : ∃ t L e, place s v = (t, L, e) := ⟨_, _, _, rfl⟩
  obtain ⟨e, he⟩ := e
  rw [he] at h1 h2 h3 h4 h5 h6 h7
  simp only at h1 h2 h3 h4 h5 h6 h7
  subst h1
  refine ⟨t.toNat, L, by omega, by rw [he, Int.toNat_of_nonneg h6], h2, h3, fun k hk => ?_, ?_⟩
  · have := h4 k hk
    rw [List.getD_eq_getElem?_getD, List.getElem?_eq_getElem hk] at this
    exact this
  · refine ⟨(text s v).getD (4 * L.length) 0, ?_, h5⟩
    rw [List.getD_eq_getElem?_getD, List.getElem?_eq_getElem (by omega)]
    rfl
theorem step_in (s v : Nat) (hs : s < 10) (hv : v < 16) : step s v = place s v := by
  unfold step
  rw [if_pos (by omega)]
  rfl
theorem step_out (s v : Int) (h : ¬(0 ≤ s ∧ s ≤ 9 ∧ 0 ≤ v ∧ v ≤ 15)) : step s v = (0, [], 1000) := if_neg h
end Go.Proofs.YteabkmelnoefiaaGreatDoor.Fsm
namespace Go.Proofs.YteabkmelnoefiaaGreatDoor.Opt
/-- A kind and its data. -/
abbrev Op := Int × List UInt8
def kindOk (o : Op) : Bool := decide (0 ≤ o.1) && decide (o.1 ≤ 255)
def short (o : Op) : Bool := decide (o.2.length ≤ 253)
def one (o : Op) : List UInt8 := UInt8.ofNat o.1.toNat :: UInt8.ofNat (o.2.length + 2) :: o.2
def wires (os : List Op) : List UInt8 := os.flatMap one
def fits (os : List Op) : Bool := os.all short && decide ((wires os).length ≤ 2048)
def code (os : List Op) : Int := if os.all kindOk then (if fits os then 0 else 401) else 400
def put (os : List Op) : List UInt8 := if code os = 0 then wires os else []
theorem one_length (o : Op) : (one o).length = o.2.length + 2 := rfl
theorem wires_nil : wires [] = [] := rfl
theorem wires_append (a b : List Op) : wires (a ++ b) = wires a ++ wires b := by simp [wires]
theorem wires_cons (o : Op) (r : List Op) : wires (o :: r) = one o ++ wires r := by simp [wires]
theorem take_snoc (os : List Op) (k : Nat) (h : k < os.length) : os.take (k + 1) = os.take k ++ [os[k]] := List.take_succ_eq_append_getElem h
theorem wires_snoc (os : List Op) (k : Nat) (h : k < os.length) : wires (os.take (k + 1)) = wires (os.take k) ++ one os[k] := by
  rw [take_snoc os k h, wires_append]; simp [wires]
theorem wires_take_le (os : List Op) (k : Nat) : (wires (os.take k)).length ≤ (wires os).length := by
  have := wires_append (os.take k) (os.drop k)
  rw [List.take_append_drop] at this
  rw [this, List.length_append]; omega
theorem wires_ge (os : List Op) : 2 * os.length ≤ (wires os).length := by
  induction os with
  | nil => simp
  | cons o r ih => rw [wires_cons, List.length_append, one_length, List.length_cons]; omega
theorem fits_take (os : List Op) (k : Nat) (h : fits (os.take k) = false) : fits os = false := by
  cases hf : fits os with
  | false => rfl
  | true =>
    exfalso
    unfold fits at hf h
    rw [Bool.and_eq_true, List.all_eq_true, decide_eq_true_iff] at hf
    rw [Bool.and_eq_false_iff] at h
    rcases h with h | h
    · have : (os.take k).all short = true := List.all_eq_true.2 fun o ho => hf.1 o (List.mem_of_mem_take ho)
      rw [h] at this; cases this
    · have := wires_take_le os k
      have h := of_decide_eq_false h
      omega
theorem fits_snoc (os : List Op) (k : Nat) (h : k < os.length) : fits (os.take (k + 1)) = ((os.take k).all short && short os[k] && decide ((wires (os.take k)).length + (os[k].2.length + 2) ≤ 2048)) := by
  unfold fits
  rw [wires_snoc os k h, take_snoc os k h, List.all_append, List.length_append, one_length]
  simp
theorem fits_nil : fits [] = true := rfl
theorem fits_short (os : List Op) (h : fits os = true) : os.all short = true ∧ (wires os).length ≤ 2048 := by
  unfold fits at h
  rw [Bool.and_eq_true, decide_eq_true_iff] at h
  exact h
theorem fits_two (os : List Op) (k : Nat) (h : k < os.length) (hf : fits (os.take k) = true) (h1 : os[k].2.length ≤ 253) (h2 : (wires (os.take k)).length + (os[k].2.length + 2) ≤ 2048) : fits (os.take (k + 1)) = true := by
  rw [fits_snoc os k h, (fits_short _ hf).1]
  simp [short, h1, h2]
theorem fits_far (os : List Op) (k : Nat) (h : k < os.length) (h1 : 253 < os[k].2.length ∨ 2048 < (wires (os.take k)).length + (os[k].2.length + 2)) : fits (os.take (k + 1)) = false := by
  rw [fits_snoc os k h]
  rcases h1 with h1 | h1
  · have : short os[k] = false := decide_eq_false (by omega)
    simp [this]
  · rw [decide_eq_false (by omega), Bool.and_false]
/-- The ways of a Put. -/
theorem code_ways (os : List Op) : (os.all kindOk = false ∧ code os = 400) ∨ (os.all kindOk = true ∧ fits os = false ∧ code os = 401) ∨ (os.all kindOk = true ∧ fits os = true ∧ code os = 0) := by
  unfold code
  cases os.all kindOk <;> cases fits os <;> simp
theorem code_far (os : List Op) (h : os.all kindOk = true) (k : Nat) (hf : fits (os.take (k + 1)) = false) : code os = 401 := by
  unfold code
  rw [h, fits_take os _ hf]; rfl
theorem code_good (os : List Op) (h : os.all kindOk = true) (hf : fits os = true) : code os = 0 := by
  unfold code
  rw [h, hf]; rfl
theorem code_bad (os : List Op) (h : os.all kindOk = false) : code os = 400 := by
  unfold code
  rw [h]; rfl
/-- Bytes as options. -/
def parse : List UInt8 → Option (List Op)
  | [] => some []
  | [_] => none
  | a :: n :: r => if n.toNat < 2 ∨ r.length + 2 < n.toNat then none else (parse (r.drop (n.toNat - 2))).map (((a.toNat : Int), r.take (n.toNat - 2)) :: ·)
termination_by l => l.length
decreasing_by simp; omega
def get (l : List UInt8) : List Op × Int := if 2048 < l.length then ([], 401) else match parse l with | none => ([], 400) | some os => (os, 0)
theorem get_long (l : List UInt8) (h : 2048 < l.length) : get l = ([], 401) := by unfold get; rw [if_pos h]
theorem get_some (l : List UInt8) (h : l.length ≤ 2048) (os : List Op) (e : parse l = some os) : get l = (os, 0) := by unfold get; rw [if_neg (by omega), e]
theorem get_bad (l : List UInt8) (h : l.length ≤ 2048) (e : parse l = none) : get l = ([], 400) := by unfold get; rw [if_neg (by omega), e]
theorem parse_nil : parse [] = some [] := by rw [parse]
theorem parse_one (l : List UInt8) (h : l.length = 1) : parse l = none := by
  match l, h with
  | [_], _ => rw [parse]
theorem parse_bad (l : List UInt8) (h : 2 ≤ l.length) (hs : (l[1]'(by omega)).toNat < 2 ∨ l.length < (l[1]'(by omega)).toNat) : parse l = none := by
  match l, h, hs with
  | a :: n :: r, _, hs =>
    rw [parse, if_pos]
    simpa using hs
theorem parse_good (l : List UInt8) (h : 2 ≤ l.length) (h1 : 2 ≤ (l[1]'(by omega)).toNat) (h2 : (l[1]'(by omega)).toNat ≤ l.length) :
    parse l = (parse (l.drop (l[1]'(by omega)).toNat)).map ((((l[0]'(by omega)).toNat : Int), (l.take (l[1]'(by omega)).toNat).drop 2) :: ·) := by
  match l, h, h1, h2 with
  | a :: n :: r, _, h1, h2 =>
    simp only [List.getElem_cons_succ, List.getElem_cons_zero, List.length_cons] at h1 h2 ⊢
    obtain ⟨m, hm⟩ : ∃ m, n.toNat = m + 2 := ⟨n.toNat - 2, by omega⟩
    rw [parse, if_neg (by omega), hm]
    simp
theorem parse_wires (os : List Op) (h : ∀ o ∈ os, kindOk o = true ∧ short o = true) : parse (wires os) = some os := by
  induction os with
  | nil => rw [wires_nil, parse_nil]
  | cons o r ih =>
    obtain ⟨hk, hs⟩ := h o (by simp)
    obtain ⟨z, d⟩ := o
    unfold kindOk at hk
    unfold short at hs
    simp only [Bool.and_eq_true, decide_eq_true_eq] at hk hs
    have ih := ih fun o ho => h o (List.mem_cons_of_mem _ ho)
    rw [wires_cons]
    show parse (UInt8.ofNat z.toNat :: UInt8.ofNat (d.length + 2) :: (d ++ wires r)) = _
    have e : (UInt8.ofNat (d.length + 2)).toNat = d.length + 2 := by simp; omega
    have e2 : ((UInt8.ofNat z.toNat).toNat : Int) = z := by simp; omega
    rw [parse, e, if_neg (by simp), e2]
    simp [ih]
theorem wires_parse : ∀ (n : Nat) (l : List UInt8) (os : List Op), l.length ≤ n → parse l = some os → wires os = l ∧ ∀ o ∈ os, kindOk o = true ∧ short o = true := by
  intro n
  induction n with
  | zero =>
    intro l os hl h
    obtain rfl : l = [] := List.length_eq_zero_iff.1 (by omega)
    rw [parse_nil] at h
    simp only [Option.some.injEq] at h
    subst h
    exact ⟨rfl, by simp⟩
  | succ n ih =>
    intro l os hl h
    match l, hl, h with
    | [], _, h =>
      rw [parse_nil] at h
      simp only [Option.some.injEq] at h
      subst h
      exact ⟨rfl, by simp⟩
    | [x], _, h => rw [parse] at h; cases h
    | a :: m :: r, hl, h =>
      rw [parse] at h
      split at h
      · cases h
      · rename_i hn
        cases hp : parse (r.drop (m.toNat - 2)) with
        | none => rw [hp] at h; cases h
        | some q =>
          rw [hp] at h
          simp only [Option.map_some, Option.some.injEq] at h
          subst h
          obtain ⟨h1, h2⟩ := ih _ q (by simp at hl ⊢; omega) hp
          have hlen : (r.take (m.toNat - 2)).length = m.toNat - 2 := by rw [List.length_take]; omega
          have hm := m.toNat_lt
          have ha := a.toNat_lt
          refine ⟨?_, ?_⟩
          · rw [wires_cons, h1]
            unfold one
            simp only [hlen]
            have e1 : UInt8.ofNat (m.toNat - 2 + 2) = m := by rw [show m.toNat - 2 + 2 = m.toNat by omega]; simp
            rw [e1]
            simp
          · intro o ho
            rcases List.mem_cons.1 ho with rfl | ho
            · unfold kindOk short
              simp only [hlen, Bool.and_eq_true, decide_eq_true_eq]
              omega
            · exact h2 o ho
/-- What was put comes back. -/
theorem get_put (os : List Op) (h : code os = 0) : get (wires os) = (os, 0) := by
  rcases code_ways os with ⟨_, h2⟩ | ⟨_, _, h2⟩ | ⟨h1, h3, _⟩
  · omega
  · omega
  · obtain ⟨h4, h5⟩ := fits_short os h3
    unfold get
    rw [if_neg (by omega), parse_wires os fun o ho => ⟨List.all_eq_true.1 h1 o ho, List.all_eq_true.1 h4 o ho⟩]
/-- What is taken is written as it stood. -/
theorem put_get (l : List UInt8) (h : (get l).2 = 0) : wires (get l).1 = l ∧ code (get l).1 = 0 := by
  unfold get at *
  split at h
  · cases h
  · rename_i hl
    rw [if_neg hl]
    cases hp : parse l with
    | none => rw [hp] at h; cases h
    | some os =>
      obtain ⟨h1, h2⟩ := wires_parse l.length l os (Nat.le_refl _) hp
      refine ⟨h1, ?_⟩
      unfold code fits
      simp only
      rw [List.all_eq_true.2 fun o ho => (h2 o ho).1, List.all_eq_true.2 fun o ho => (h2 o ho).2, h1, decide_eq_true (by omega)]
      rfl
theorem get_none (l : List UInt8) (h : (get l).2 ≠ 0) : (get l).1 = [] := by
  unfold get at *
  split
  · rfl
  · rename_i hl
    rw [if_neg hl] at h
    cases hp : parse l with
    | none => rfl
    | some os => rw [hp] at h; exact absurd rfl h
theorem get_count (l : List UInt8) : 2 * (get l).1.length ≤ 2048 := by
  by_cases h : (get l).2 = 0
  · have := (put_get l h).1
    have h2 := wires_ge (get l).1
    rw [this] at h2
    have : l.length ≤ 2048 := by
      unfold get at h
      split at h
      · cases h
      · omega
    omega
  · rw [get_none l h]; simp
/-- The parse so far, and what is left. -/
def goes (acc : List Op) (rest : List UInt8) : Option (List Op) := (parse rest).map (acc ++ ·)
theorem goes_start (l : List UInt8) : goes [] l = parse l := by unfold goes; cases parse l <;> simp
theorem goes_end (acc : List Op) : goes acc [] = some acc := by unfold goes; rw [parse_nil]; simp
theorem goes_one (acc : List Op) (l : List UInt8) (h : l.length = 1) : goes acc l = none := by unfold goes; rw [parse_one l h]; rfl
theorem goes_bad (acc : List Op) (l : List UInt8) (h : 2 ≤ l.length) (hs : (l[1]'(by omega)).toNat < 2 ∨ l.length < (l[1]'(by omega)).toNat) : goes acc l = none := by unfold goes; rw [parse_bad l h hs]; rfl
theorem goes_good (acc : List Op) (l : List UInt8) (h : 2 ≤ l.length) (h1 : 2 ≤ (l[1]'(by omega)).toNat) (h2 : (l[1]'(by omega)).toNat ≤ l.length) :
    goes acc l = goes (acc ++ [(((l[0]'(by omega)).toNat : Int), (l.take (l[1]'(by omega)).toNat).drop 2)]) (l.drop (l[1]'(by omega)).toNat) := by
  unfold goes
  rw [parse_good l h h1 h2]
  cases parse (l.drop (l[1]'(by omega)).toNat) <;> simp
/-- 'z' is the place of the first of the kind from place i on; -1: none. -/
def FindFrom (os : List Op) (k : Int) (i : Nat) (z : Int) : Prop :=
  (z = -1 ∧ ∀ j (h : j < os.length), i ≤ j → os[j].1 ≠ k) ∨ ∃ n : Nat, z = (n : Int) ∧ i ≤ n ∧ ∃ h : n < os.length, os[n].1 = k ∧ ∀ j (h : j < os.length), i ≤ j → j < n → os[j].1 ≠ k
theorem find_end (os : List Op) (k : Int) : FindFrom os k os.length (-1) := .inl ⟨rfl, fun j h hj => by omega⟩
theorem find_hit (os : List Op) (k : Int) (i : Nat) (h : i < os.length) (e : os[i].1 = k) : FindFrom os k i i := .inr ⟨i, rfl, Nat.le_refl _, h, e, fun j h1 h2 h3 => by omega⟩
theorem find_miss (os : List Op) (k : Int) (i : Nat) (h : i < os.length) (e : os[i].1 ≠ k) (z : Int) (hz : FindFrom os k (i + 1) z) : FindFrom os k i z := by
  rcases hz with ⟨h1, h2⟩ | ⟨n, h1, h2, h3, h4, h5⟩
  · refine .inl ⟨h1, fun j hj hij => ?_⟩
    by_cases hq : j = i
    · subst hq; exact e
    · exact h2 j hj (by omega)
  · refine .inr ⟨n, h1, by omega, h3, h4, fun j hj hij hjn => ?_⟩
    by_cases hq : j = i
    · subst hq; exact e
    · exact h5 j hj (by omega) hjn
theorem find_one (os : List Op) (k : Int) (i : Nat) (y z : Int) (hy : FindFrom os k i y) (hz : FindFrom os k i z) : y = z := by
  rcases hy with ⟨h1, h2⟩ | ⟨n, h1, h2, h3, h4, h5⟩
  · rcases hz with ⟨g1, g2⟩ | ⟨m, g1, g2, g3, g4, g5⟩
    · omega
    · exact absurd g4 (h2 m g3 g2)
  · rcases hz with ⟨g1, g2⟩ | ⟨m, g1, g2, g3, g4, g5⟩
    · exact absurd h4 (g2 n h3 h2)
    · rcases Nat.lt_trichotomy n m with h | h | h
      · exact absurd h4 (g5 n h3 h2 h)
      · omega
      · exact absurd g4 (h5 m g3 g2 h)
/-- The place of the first that the test takes; -1: none. -/
def first (p : Op → Bool) (os : List Op) : Int := if os.findIdx p < os.length then (os.findIdx p : Nat) else -1
theorem first_hit (p : Op → Bool) (os : List Op) (k : Nat) (h : k < os.length) (e : p os[k] = true) (hm : ∀ j (h : j < os.length), j < k → p os[j] = false) : first p os = k := by
  have e : os.findIdx p = k := by
    rw [List.findIdx_eq h]
    exact ⟨e, fun j hj => hm j (by omega) hj⟩
  unfold first
  rw [e, if_pos h]
theorem first_miss (p : Op → Bool) (os : List Op) (hm : ∀ j (h : j < os.length), p os[j] = false) : first p os = -1 := by
  unfold first
  rw [if_neg]
  intro h
  have := List.findIdx_getElem (p := p) (xs := os) (w := h)
  rw [hm] at this
  cases this
theorem first_any (p : Op → Bool) (os : List Op) : decide (0 ≤ first p os) = os.any p := by
  unfold first
  split
  · rename_i h
    have h2 := List.findIdx_getElem (p := p) (xs := os) (w := h)
    rw [List.any_eq_true.2 ⟨_, List.getElem_mem h, h2⟩, decide_eq_true (by omega)]
  · rename_i h
    have h2 := List.findIdx_eq_length.1 (Nat.le_antisymm (List.findIdx_le_length (p := p) (xs := os)) (by omega))
    rw [List.any_eq_false.2 fun x hx => by rw [h2 x hx]; simp]
    rfl
def find (k : Int) (os : List Op) : Int := first (fun o => o.1 == k) os
theorem find_from (k : Int) (os : List Op) : FindFrom os k 0 (find k os) := by
  unfold find first
  split
  · rename_i h
    refine .inr ⟨_, rfl, Nat.zero_le _, h, ?_, fun j hj _ hjn => ?_⟩
    · have := List.findIdx_getElem (p := fun o : Op => o.1 == k) (xs := os) (w := h)
      simpa using this
    · have := List.not_of_lt_findIdx hjn
      simpa using this
  · rename_i h
    refine .inl ⟨rfl, fun j hj _ => ?_⟩
    have h2 := List.findIdx_eq_length.1 (Nat.le_antisymm (List.findIdx_le_length (p := fun o : Op => o.1 == k) (xs := os)) (by omega)) os[j] (List.getElem_mem hj)
    simpa using h2
theorem bad_any (os : List Op) : os.any (fun o => !kindOk o) = !(os.all kindOk) := by
  induction os with
  | nil => rfl
  | cons o r ih => simp only [List.any_cons, List.all_cons, ih, Bool.not_and]
theorem find_eq (k : Int) (os : List Op) (z : Int) (h : FindFrom os k 0 z) : find k os = z := find_one os k 0 _ _ (find_from k os) h
theorem find_nil (k : Int) : find k [] = -1 := rfl
theorem find_ways (k : Int) (os : List Op) : (find k os = -1 ∧ find k (os ++ [(k, [])]) = os.length) ∨
    ∃ n : Nat, find k os = n ∧ ∃ h : n < os.length, os[n].1 = k ∧ find k (os.take n) = -1 ∧ find k (os ++ [(k, [])]) = n := by
  rcases find_from k os with ⟨h1, h2⟩ | ⟨n, h1, _, h3, h4, h5⟩
  · refine .inl ⟨h1, find_eq _ _ _ (.inr ⟨os.length, rfl, Nat.zero_le _, by simp, by simp, fun j hj _ hjn => ?_⟩)⟩
    rw [List.getElem_append_left hjn]
    exact h2 j hjn (Nat.zero_le _)
  · refine .inr ⟨n, h1, h3, h4, find_eq _ _ _ (.inl ⟨rfl, fun j hj _ => ?_⟩), find_eq _ _ _ (.inr ⟨n, rfl, Nat.zero_le _, by simp; omega, ?_, fun j hj _ hjn => ?_⟩)⟩
    · rw [List.getElem_take]
      rw [List.length_take] at hj
      exact h5 j (by omega) (Nat.zero_le _) (by omega)
    · rw [List.getElem_append_left h3]; exact h4
    · rw [List.getElem_append_left (by omega)]
      exact h5 j (by omega) (Nat.zero_le _) hjn
end Go.Proofs.YteabkmelnoefiaaGreatDoor.Opt
namespace Go.Proofs.YteabkmelnoefiaaGreatDoor.Ctl
/-- Code, id, options, data. -/
abbrev Pk := Int × Int × List Opt.Op × List UInt8
def byte (n : Int) : Bool := decide (0 ≤ n) && decide (n ≤ 255)
def conf (c : Int) : Bool := decide (1 ≤ c) && decide (c ≤ 4)
def own (p : Pk) : Bool := if conf p.1 then p.2.2.2.isEmpty else p.2.2.1.isEmpty
def body (p : Pk) : List UInt8 := if conf p.1 then Opt.wires p.2.2.1 else p.2.2.2
def code (p : Pk) : Int :=
  if byte p.1 = true ∧ byte p.2.1 = true then
    if Opt.code p.2.2.1 = 0 ∧ own p = true then (if (body p).length + 4 ≤ 2048 then 0 else 503) else 502
  else 501
def head (c i : Int) (n : Nat) : List UInt8 := [UInt8.ofNat c.toNat, UInt8.ofNat i.toNat, UInt8.ofNat (n / 256), UInt8.ofNat (n % 256)]
def wire (p : Pk) : List UInt8 := head p.1 p.2.1 ((body p).length + 4) ++ body p
def put (p : Pk) : List UInt8 := if code p = 0 then wire p else []
def zero : Pk := (0, 0, [], [])
def held (c i : Int) (b : List UInt8) : Pk × Int :=
  if conf c then (if (Opt.get b).2 = 0 then ((c, i, (Opt.get b).1, []), 0) else (zero, 502)) else ((c, i, [], b), 0)
def get : List UInt8 → Pk × Int
  | a :: b :: x :: y :: r =>
    if x.toNat * 256 + y.toNat < 4 ∨ r.length + 4 < x.toNat * 256 + y.toNat then (zero, 501)
    else if 2048 < x.toNat * 256 + y.toNat then (zero, 503)
    else held a.toNat b.toNat (r.take (x.toNat * 256 + y.toNat - 4))
  | _ => (zero, 500)
theorem head_length (c i : Int) (n : Nat) : (head c i n).length = 4 := rfl
theorem wire_length (p : Pk) : (wire p).length = (body p).length + 4 := by unfold wire; rw [List.length_append, head_length]; omega
theorem code_nil : Opt.code [] = 0 := by decide +kernel
/-- The ways of a Put. -/
theorem code_ways (c i : Int) (os : List Opt.Op) (d : List UInt8) :
    (byte c = false ∧ code (c, i, os, d) = 501) ∨ (byte c = true ∧ byte i = false ∧ code (c, i, os, d) = 501) ∨
    (byte c = true ∧ byte i = true ∧ Opt.code os ≠ 0 ∧ code (c, i, os, d) = 502) ∨
    (byte c = true ∧ byte i = true ∧ Opt.code os = 0 ∧ own (c, i, os, d) = false ∧ code (c, i, os, d) = 502) ∨
    (byte c = true ∧ byte i = true ∧ Opt.code os = 0 ∧ own (c, i, os, d) = true ∧ 2048 < (body (c, i, os, d)).length + 4 ∧ code (c, i, os, d) = 503) ∨
    (byte c = true ∧ byte i = true ∧ Opt.code os = 0 ∧ own (c, i, os, d) = true ∧ (body (c, i, os, d)).length + 4 ≤ 2048 ∧ code (c, i, os, d) = 0) := by
  unfold code
  dsimp only
  by_cases h1 : byte c = true
  · by_cases h2 : byte i = true
    · by_cases h3 : Opt.code os = 0
      · by_cases h4 : own (c, i, os, d) = true
        · by_cases h5 : (body (c, i, os, d)).length + 4 ≤ 2048
          · simp [h1, h2, h3, h4, h5]
          · have h6 : 2048 < (body (c, i, os, d)).length + 4 := by omega
            simp [h1, h2, h3, h4, h5, h6]
        · have h5 : own (c, i, os, d) = false := by simpa using h4
          simp [h1, h2, h3, h5]
      · simp [h1, h2, h3]
    · have h5 : byte i = false := by simpa using h2
      simp [h1, h5]
  · have h5 : byte c = false := by simpa using h1
    simp [h5]
theorem put_bad (p : Pk) (h : code p ≠ 0) : put p = [] := if_neg h
theorem put_good (p : Pk) (h : code p = 0) : put p = wire p := if_pos h
/-- The ways of a body: options alone, or data alone. -/
theorem body_ways (c i : Int) (os : List Opt.Op) (d : List UInt8) (h : own (c, i, os, d) = true) :
    (conf c = true ∧ d = [] ∧ body (c, i, os, d) = Opt.wires os) ∨ (conf c = false ∧ os = [] ∧ body (c, i, os, d) = d) := by
  unfold own at h
  unfold body
  dsimp only at *
  cases hc : conf c
  · rw [hc] at h
    simp at h
    simp [h]
  · rw [hc] at h
    simp at h
    simp [h]
/-- Behind each other in any case. -/
theorem body_both (c i : Int) (os : List Opt.Op) (d : List UInt8) (h : own (c, i, os, d) = true) : body (c, i, os, d) = Opt.wires os ++ d := by
  rcases body_ways c i os d h with ⟨_, rfl, e⟩ | ⟨_, rfl, e⟩
  · rw [e]; simp
  · rw [e]; simp [Opt.wires_nil]
theorem byte_ofNat (z : Int) (h : byte z = true) : ((UInt8.ofNat z.toNat).toNat : Int) = z := by
  unfold byte at h
  simp only [Bool.and_eq_true, decide_eq_true_eq] at h
  simp; omega
theorem two_ofNat (n : Nat) (h : n ≤ 2048) : (UInt8.ofNat (n / 256)).toNat * 256 + (UInt8.ofNat (n % 256)).toNat = n := by
  simp; omega
/-- What was put comes back, whatever stands behind it. -/
theorem get_wire (p : Pk) (m : List UInt8) (h : code p = 0) : get (wire p ++ m) = (p, 0) := by
  obtain ⟨c, i, os, d⟩ := p
  rcases code_ways c i os d with ⟨_, e⟩ | ⟨_, _, e⟩ | ⟨_, _, _, e⟩ | ⟨_, _, _, _, e⟩ | ⟨_, _, _, _, _, e⟩ | ⟨h1, h2, h3, h4, h5, _⟩
  · omega
  · omega
  · omega
  · omega
  · omega
  · have e := two_ofNat ((body (c, i, os, d)).length + 4) h5
    show get (_ :: _ :: _ :: _ :: (body (c, i, os, d) ++ m)) = _
    unfold get
    dsimp only
    rw [e, byte_ofNat c h1, byte_ofNat i h2, if_neg (by rw [List.length_append]; omega), if_neg (by omega)]
    have ht : (body (c, i, os, d) ++ m).take ((body (c, i, os, d)).length + 4 - 4) = body (c, i, os, d) := by simp
    rw [ht]
    unfold held
    rcases body_ways c i os d h4 with ⟨g1, rfl, g3⟩ | ⟨g1, rfl, g3⟩
    · rw [g1, g3, Opt.get_put os h3]; rfl
    · rw [g1, g3]; rfl
/-- One byte fewer is none. -/
theorem get_cut (p : Pk) (h : code p = 0) : (get ((wire p).take ((wire p).length - 1))).2 ≠ 0 := by
  obtain ⟨c, i, os, d⟩ := p
  have h5 : (body (c, i, os, d)).length + 4 ≤ 2048 := by
    rcases code_ways c i os d with ⟨_, e⟩ | ⟨_, _, e⟩ | ⟨_, _, _, e⟩ | ⟨_, _, _, _, e⟩ | ⟨_, _, _, _, _, e⟩ | ⟨h1, h2, h3, h4, h5, _⟩ <;> omega
  have e := two_ofNat ((body (c, i, os, d)).length + 4) h5
  rw [wire_length]
  unfold wire head
  generalize body (c, i, os, d) = b at *
  cases b with
  | nil => simp [get]
  | cons z r =>
    show (get (_ :: _ :: _ :: _ :: ((z :: r).take r.length))).2 ≠ 0
    unfold get
    dsimp only
    rw [e, if_pos (by right; rw [List.length_take, List.length_cons]; omega)]
    decide
theorem get_short (l : List UInt8) (h : l.length < 4) : get l = (zero, 500) := by
  match l, h with
  | [], _ => rfl
  | [_], _ => rfl
  | [_, _], _ => rfl
  | [_, _, _], _ => rfl
def size (l : List UInt8) (h : 4 ≤ l.length) : Nat := (l[2]'(by omega)).toNat * 256 + (l[3]'(by omega)).toNat
theorem four (l : List UInt8) (h : 4 ≤ l.length) : ∃ a b x y r, l = a :: b :: x :: y :: r := by
  rcases l with _ | ⟨a, _ | ⟨b, _ | ⟨x, _ | ⟨y, r⟩⟩⟩⟩
  · simp at h
  · simp at h
  · simp at h
  · simp at h
  · exact ⟨a, b, x, y, r, rfl⟩
theorem size_four (a b x y : UInt8) (r : List UInt8) (h : 4 ≤ (a :: b :: x :: y :: r).length) : size (a :: b :: x :: y :: r) h = x.toNat * 256 + y.toNat := rfl
theorem get_four (a b x y : UInt8) (r : List UInt8) : get (a :: b :: x :: y :: r) = if x.toNat * 256 + y.toNat < 4 ∨ r.length + 4 < x.toNat * 256 + y.toNat then (zero, 501)
    else if 2048 < x.toNat * 256 + y.toNat then (zero, 503)
    else held a.toNat b.toNat (r.take (x.toNat * 256 + y.toNat - 4)) := rfl
theorem get_length (l : List UInt8) (h : 4 ≤ l.length) (hs : size l h < 4 ∨ l.length < size l h) : get l = (zero, 501) := by
  obtain ⟨a, b, x, y, r, rfl⟩ := four l h
  rw [size_four] at hs
  rw [get_four, if_pos (by simpa using hs)]
theorem get_long (l : List UInt8) (h : 4 ≤ l.length) (h1 : 4 ≤ size l h) (h2 : size l h ≤ l.length) (h3 : 2048 < size l h) : get l = (zero, 503) := by
  obtain ⟨a, b, x, y, r, rfl⟩ := four l h
  rw [size_four] at h1 h2 h3
  simp only [List.length_cons] at h2
  rw [get_four, if_neg (by omega), if_pos h3]
theorem get_held (l : List UInt8) (h : 4 ≤ l.length) (h1 : 4 ≤ size l h) (h2 : size l h ≤ l.length) (h3 : size l h ≤ 2048) : get l = held ((l[0]'(by omega)).toNat) ((l[1]'(by omega)).toNat) ((l.take (size l h)).drop 4) := by
  obtain ⟨a, b, x, y, r, rfl⟩ := four l h
  rw [size_four] at h1 h2 h3 ⊢
  simp only [List.length_cons] at h2
  rw [get_four, if_neg (by omega), if_neg (by omega)]
  obtain ⟨k, hk⟩ : ∃ k, x.toNat * 256 + y.toNat = k + 4 := ⟨_, (Nat.sub_add_cancel h1).symm⟩
  rw [hk]
  simp
theorem held_conf (c i : Int) (b : List UInt8) (h : conf c = true) (hg : (Opt.get b).2 = 0) : held c i b = ((c, i, (Opt.get b).1, []), 0) := by unfold held; rw [h, if_pos rfl, if_pos hg]
theorem held_bad (c i : Int) (b : List UInt8) (h : conf c = true) (hg : (Opt.get b).2 ≠ 0) : held c i b = (zero, 502) := by unfold held; rw [h, if_pos rfl, if_neg hg]
theorem held_data (c i : Int) (b : List UInt8) (h : conf c = false) : held c i b = ((c, i, [], b), 0) := by unfold held; rw [h]; rfl
/-- What a Get gives is small. -/
theorem get_count (l : List UInt8) : (get l).1.2.2.1.length ≤ 1024 ∧ (get l).1.2.2.2.length ≤ 2048 := by
  by_cases h : l.length < 4
  · rw [get_short l h]; decide
  · by_cases h1 : size l (by omega) < 4 ∨ l.length < size l (by omega)
    · rw [get_length l (by omega) h1]; decide
    · by_cases h2 : 2048 < size l (by omega)
      · rw [get_long l (by omega) (by omega) (by omega) h2]; decide
      · rw [get_held l (by omega) (by omega) (by omega) (by omega)]
        generalize hb : (l.take (size l (by omega))).drop 4 = b
        have hbl : b.length ≤ 2048 := by rw [← hb, List.length_drop, List.length_take]; omega
        have hc := Opt.get_count b
        cases hcf : conf (((l[0]'(by omega)).toNat : Nat) : Int)
        · rw [held_data _ _ _ hcf]; exact ⟨by simp, hbl⟩
        · by_cases hg : (Opt.get b).2 = 0
          · rw [held_conf _ _ _ hcf hg]; exact ⟨by show (Opt.get b).1.length ≤ 1024; omega, by simp⟩
          · rw [held_bad _ _ _ hcf hg]; decide
end Go.Proofs.YteabkmelnoefiaaGreatDoor.Ctl
namespace Go.Proofs.YteabkmelnoefiaaGreatDoor.Pol
abbrev Op := Go.Proofs.YteabkmelnoefiaaGreatDoor.Opt.Op
structure Lk where
  mru : Int
  magic : Int
  mrru : Int
  short : Bool
  disc : List UInt8
  num : Int
deriving DecidableEq
def zero : Lk := ⟨0, 0, 0, false, [], 0⟩
def unit (x : Int) : Bool := decide (128 ≤ x) && decide (x ≤ 1500)
def size (x : Int) : Bool := x == 0 || unit x
def may (l : Lk) : Bool := size l.mru && size l.mrru && decide (0 ≤ l.magic) && decide (l.magic ≤ 4294967295) && decide (l.disc.length ≤ 20) && decide (0 ≤ l.num) && decide (l.num ≤ 65535)
/-- A number in so many bytes, the high one first. -/
def be : Nat → Nat → List UInt8
  | 0, _ => []
  | j + 1, n => UInt8.ofNat (n / 256 ^ j) :: be j n
def val (l : List UInt8) : Nat := l.foldl (fun x b => x * 256 + b.toNat) 0
def opt (k : Int) (x : Int) (many : Nat) : List Op := if x = 0 then [] else [(k, be many x.toNat)]
def asks (l : Lk) : List Op := opt 1 l.mru 2 ++ opt 5 l.magic 4 ++ opt 17 l.mrru 2 ++ (if l.short then [(18, [])] else []) ++ (if l.disc = [] then [] else [(19, l.disc)]) ++ opt 23 l.num 2
def ask (l : Lk) : List Op × Int := if may l then (asks l, 0) else ([], 1400)
def right (o : Op) : Bool :=
  if o.1 = 1 ∨ o.1 = 17 ∨ o.1 = 23 then o.2.length == 2
  else if o.1 = 5 then o.2.length == 4
  else if o.1 = 18 then o.2.length == 0
  else if o.1 = 19 then decide (1 ≤ o.2.length) && decide (o.2.length ≤ 20)
  else false
def fit (o : Op) : Bool := decide (0 ≤ o.1) && decide (o.1 ≤ 255) && decide (o.2.length ≤ 253)
def fits (os : List Op) : Bool := os.all fit
def turn (m : Int) : Int := if m = 4294967295 then 1 else 4294967295 - m
/-- A number of any bytes, as a machine reckons it. -/
def numI (f : Int → Int → Int) (l : List UInt8) : Int := l.foldl (fun x b => f x b.toNat) 0
def g (os : List Op) (k : Nat) : Op := os.getD k (0, [])
theorem g_eq (os : List Op) (k : Nat) (h : k < os.length) : g os k = os[k] := by simp [g, h]
section
variable (nm : List UInt8 → Int)
def better (own : Lk) (o : Op) : Option Op :=
  if (o.1 = 1 ∨ o.1 = 17) ∧ unit (nm o.2) = false then some (o.1, be 2 1500)
  else if o.1 = 5 ∧ (nm o.2 = 0 ∨ nm o.2 = own.magic) then some (o.1, be 4 (turn own.magic).toNat)
  else none
def twice (os : List Op) (k : Nat) : Bool := (os.take k).any (fun o => o.1 == (g os k).1)
def bad (own : Lk) (os : List Op) (k : Nat) : Bool := !right (g os k) || twice os k || ((g os k).1 == 18 && !own.short)
def rejs (own : Lk) (os : List Op) : Nat → List Op
  | 0 => []
  | k + 1 => rejs own os k ++ (if bad own os k then [g os k] else [])
def naks (own : Lk) (os : List Op) : Nat → List Op
  | 0 => []
  | k + 1 => naks own os k ++ (if bad own os k then [] else (better nm own (g os k)).toList)
def judge (own : Lk) (os : List Op) : Int × List Op × Int :=
  if may own && fits os then
    (if rejs own os os.length ≠ [] then (2, rejs own os os.length, 0) else if naks nm own os os.length ≠ [] then (1, naks nm own os os.length, 0) else (0, os, 0))
  else (0, [], 1400)
def without (l : Lk) (k : Int) : Lk :=
  if k = 1 then { l with mru := 0 } else if k = 5 then { l with magic := 0 } else if k = 17 then { l with mrru := 0 } else if k = 18 then { l with short := false } else if k = 19 then { l with disc := [] } else if k = 23 then { l with num := 0 } else l
def taught (l : Lk) (o : Op) : Lk :=
  if o.1 = 1 ∧ l.mru ≠ 0 ∧ unit (nm o.2) = true then { l with mru := nm o.2 }
  else if o.1 = 5 ∧ l.magic ≠ 0 ∧ nm o.2 ≠ 0 then { l with magic := nm o.2 }
  else if o.1 = 17 ∧ l.mrru ≠ 0 ∧ unit (nm o.2) = true then { l with mrru := nm o.2 }
  else if o.1 = 19 ∧ l.disc ≠ [] then { l with disc := o.2 }
  else if o.1 = 23 ∧ l.num ≠ 0 then { l with num := nm o.2 }
  else l
def lesson (code : Int) (l : Lk) (o : Op) : Lk := if right o then (if code = 4 then without l o.1 else taught nm l o) else l
def learns (code : Int) (l : Lk) (os : List Op) : Lk := os.foldl (lesson nm code) l
def learn (l : Lk) (code : Int) (os : List Op) : Lk × Int := if may l && (code == 3 || code == 4) then (learns nm code l os, 0) else (zero, 1400)
def takes (l : Lk) (o : Op) : Lk :=
  if o.1 = 1 then { l with mru := nm o.2 } else if o.1 = 5 then { l with magic := nm o.2 } else if o.1 = 17 then { l with mrru := nm o.2 } else if o.1 = 18 then { l with short := true } else if o.1 = 19 then { l with disc := o.2 } else if o.1 = 23 then { l with num := nm o.2 } else l
def fine (os : List Op) (k : Nat) : Bool := right (g os k) && !twice os k
def allFine (os : List Op) : Nat → Bool
  | 0 => true
  | k + 1 => allFine os k && fine os k
def taken (os : List Op) : Lk × Int := if allFine os os.length && may (os.foldl (takes nm) zero) then (os.foldl (takes nm) zero, 0) else (zero, 1400)
end
theorem be_length (j n : Nat) : (be j n).length = j := by
  induction j with
  | zero => rfl
  | succ j ih => simp [be, ih]
theorem take_snoc (os : List Op) (k : Nat) (h : k < os.length) : os.take (k + 1) = os.take k ++ [g os k] := by rw [g_eq os k h]; exact List.take_succ_eq_append_getElem h
theorem learns_snoc (nm : List UInt8 → Int) (code : Int) (l : Lk) (os : List Op) (k : Nat) (h : k < os.length) : learns nm code l (os.take (k + 1)) = lesson nm code (learns nm code l (os.take k)) (g os k) := by
  unfold learns
  rw [take_snoc os k h, List.foldl_append]
  rfl
theorem may_iff (l : Lk) : may l = true ↔ size l.mru = true ∧ size l.mrru = true ∧ 0 ≤ l.magic ∧ l.magic ≤ 4294967295 ∧ l.disc.length ≤ 20 ∧ 0 ≤ l.num ∧ l.num ≤ 65535 := by
  unfold may
  simp only [Bool.and_eq_true, decide_eq_true_eq, and_assoc]
end Go.Proofs.YteabkmelnoefiaaGreatDoor.Pol
