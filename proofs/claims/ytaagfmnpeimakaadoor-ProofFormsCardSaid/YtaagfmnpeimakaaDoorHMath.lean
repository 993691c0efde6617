/-
  Plain lists: messages by which sides prove themselves as bytes, and back; a text from which fields are taken off one by one.
-/
import Derived.Test.YtaagfmnpeimakaaDoorOwn
namespace Go.Proofs.YtaagfmnpeimakaaDoor.Chp
/-- Code, id, value, name. -/
abbrev Msg := Int × Int × List UInt8 × List UInt8
def byte (n : Int) : Bool := decide (0 ≤ n) && decide (n ≤ 255)
def kind (c : Int) : Bool := decide (1 ≤ c) && decide (c ≤ 4)
def val (c : Int) : Bool := decide (c = 1) || decide (c = 2)
/-- A value that can stand where the code has one, none where it has not. -/
def holds (c : Int) (v : List UInt8) : Bool := if val c then decide (1 ≤ v.length) && decide (v.length ≤ 255) else v.isEmpty
def code (m : Msg) : Int := if kind m.1 = true ∧ byte m.2.1 = true ∧ holds m.1 m.2.2.1 = true then (if m.2.2.2.length ≤ 253 then 0 else 601) else 600
def body (m : Msg) : List UInt8 := if val m.1 then UInt8.ofNat m.2.2.1.length :: (m.2.2.1 ++ m.2.2.2) else m.2.2.2
def head (c i : Int) (n : Nat) : List UInt8 := [UInt8.ofNat c.toNat, UInt8.ofNat i.toNat, UInt8.ofNat (n / 256), UInt8.ofNat (n % 256)]
def wire (m : Msg) : List UInt8 := head m.1 m.2.1 ((body m).length + 4) ++ body m
def put (m : Msg) : List UInt8 := if code m = 0 then wire m else []
def zero : Msg := (0, 0, [], [])
/-- A message that was read, if it may be. -/
def seen (m : Msg) : Msg × Int := if code m = 0 then (m, 0) else (zero, code m)
/-- What stands behind the head. -/
def inner (a b : Int) (t : List UInt8) : Msg × Int :=
  if val a then
    match t with
    | [] => (zero, 600)
    | v :: s => if s.length < v.toNat then (zero, 600) else seen (a, b, s.take v.toNat, s.drop v.toNat)
  else seen (a, b, [], t)
def get : List UInt8 → Msg × Int
  | a :: b :: x :: y :: r =>
    if x.toNat * 256 + y.toNat < 4 ∨ r.length + 4 < x.toNat * 256 + y.toNat then (zero, 600)
    else inner a.toNat b.toNat (r.take (x.toNat * 256 + y.toNat - 4))
  | _ => (zero, 600)
theorem head_length (c i : Int) (n : Nat) : (head c i n).length = 4 := rfl
theorem wire_length (m : Msg) : (wire m).length = (body m).length + 4 := by unfold wire; rw [List.length_append, head_length]; omega
theorem put_bad (m : Msg) (h : code m ≠ 0) : put m = [] := if_neg h
theorem put_good (m : Msg) (h : code m = 0) : put m = wire m := if_pos h
/-- The ways of a Put. -/
theorem code_ways (c i : Int) (v n : List UInt8) :
    (kind c = false ∧ code (c, i, v, n) = 600) ∨ (kind c = true ∧ byte i = false ∧ code (c, i, v, n) = 600) ∨
    (kind c = true ∧ byte i = true ∧ holds c v = false ∧ code (c, i, v, n) = 600) ∨
    (kind c = true ∧ byte i = true ∧ holds c v = true ∧ 253 < n.length ∧ code (c, i, v, n) = 601) ∨
    (kind c = true ∧ byte i = true ∧ holds c v = true ∧ n.length ≤ 253 ∧ code (c, i, v, n) = 0) := by
  unfold code
  dsimp only
  by_cases h1 : kind c = true
  · by_cases h2 : byte i = true
    · by_cases h3 : holds c v = true
      · by_cases h4 : n.length ≤ 253
        · simp [h1, h2, h3, h4]
        · have h5 : 253 < n.length := by omega
          simp [h1, h2, h3, h4, h5]
      · have h4 : holds c v = false := by simpa using h3
        simp [h1, h2, h4]
    · have h5 : byte i = false := by simpa using h2
      simp [h1, h5]
  · have h5 : kind c = false := by simpa using h1
    simp [h5]
theorem holds_val (c : Int) (v : List UInt8) (h : holds c v = true) (hv : val c = true) : 1 ≤ v.length ∧ v.length ≤ 255 := by
  unfold holds at h
  rw [if_pos hv] at h
  simpa using h
theorem holds_none (c : Int) (v : List UInt8) (h : holds c v = true) (hv : val c = false) : v = [] := by
  unfold holds at h
  rw [if_neg (by rw [hv]; simp)] at h
  simpa using h
theorem body_len (m : Msg) (h : code m = 0) : (body m).length ≤ 509 := by
  obtain ⟨c, i, v, n⟩ := m
  rcases code_ways c i v n with ⟨_, e⟩ | ⟨_, _, e⟩ | ⟨_, _, _, e⟩ | ⟨_, _, _, _, e⟩ | ⟨h1, h2, h3, h4, _⟩
  · omega
  · omega
  · omega
  · omega
  · unfold body
    dsimp only
    cases hv : val c
    · simp; omega
    · have := holds_val c v h3 hv
      simp; omega
theorem byte_ofNat (z : Int) (h : byte z = true) : ((UInt8.ofNat z.toNat).toNat : Int) = z := by
  unfold byte at h
  simp only [Bool.and_eq_true, decide_eq_true_eq] at h
  simp; omega
theorem kind_byte (z : Int) (h : kind z = true) : byte z = true := by
  unfold kind at h
  unfold byte
  simp only [Bool.and_eq_true, decide_eq_true_eq] at *
  omega
theorem two_ofNat (n : Nat) (h : n ≤ 2048) : (UInt8.ofNat (n / 256)).toNat * 256 + (UInt8.ofNat (n % 256)).toNat = n := by
  simp; omega
theorem seen_good (m : Msg) (h : code m = 0) : seen m = (m, 0) := if_pos h
/-- What was put comes back, whatever stands behind it. -/
theorem get_wire (m : Msg) (more : List UInt8) (h : code m = 0) : get (wire m ++ more) = (m, 0) := by
  have hb := body_len m h
  obtain ⟨c, i, v, n⟩ := m
  rcases code_ways c i v n with ⟨_, e⟩ | ⟨_, _, e⟩ | ⟨_, _, _, e⟩ | ⟨_, _, _, _, e⟩ | ⟨h1, h2, h3, h4, _⟩
  · omega
  · omega
  · omega
  · omega
  · have e := two_ofNat ((body (c, i, v, n)).length + 4) (by omega)
    show get (_ :: _ :: _ :: _ :: (body (c, i, v, n) ++ more)) = _
    unfold get
    dsimp only
    rw [e, byte_ofNat c (kind_byte c h1), byte_ofNat i h2, if_neg (by rw [List.length_append]; omega)]
    have ht : (body (c, i, v, n) ++ more).take ((body (c, i, v, n)).length + 4 - 4) = body (c, i, v, n) := by simp
    rw [ht]
    unfold inner body
    dsimp only
    cases hv : val c
    · obtain rfl := holds_none c v h3 hv
      simpa using seen_good _ h
    · obtain ⟨g1, g2⟩ := holds_val c v h3 hv
      have e2 : (UInt8.ofNat v.length).toNat = v.length := by simp; omega
      rw [if_pos rfl, if_pos rfl]
      dsimp only
      rw [e2, if_neg (by rw [List.length_append]; omega)]
      simpa using seen_good _ h
theorem inner_short (a b : Int) (t : List UInt8) (h : val a = true) (h2 : t = []) : inner a b t = (zero, 600) := by subst h2; unfold inner; rw [if_pos h]
/-- One byte fewer is none. -/
theorem get_cut (m : Msg) (h : code m = 0) : get ((wire m).take ((wire m).length - 1)) = (zero, 600) := by
  have hb := body_len m h
  have e := two_ofNat ((body m).length + 4) (by omega)
  rw [wire_length]
  unfold wire head
  generalize body m = t at *
  cases t with
  | nil => simp [get]
  | cons z r =>
    show get (_ :: _ :: _ :: _ :: ((z :: r).take r.length)) = _
    unfold get
    dsimp only
    rw [e, if_pos (by right; rw [List.length_take, List.length_cons]; omega)]
theorem get_short (l : List UInt8) (h : l.length < 4) : get l = (zero, 600) := by
  match l, h with
  | [], _ => rfl
  | [_], _ => rfl
  | [_, _], _ => rfl
  | [_, _, _], _ => rfl
theorem get_four (a b x y : UInt8) (r : List UInt8) : get (a :: b :: x :: y :: r) = if x.toNat * 256 + y.toNat < 4 ∨ r.length + 4 < x.toNat * 256 + y.toNat then (zero, 600)
    else inner a.toNat b.toNat (r.take (x.toNat * 256 + y.toNat - 4)) := rfl
theorem four (l : List UInt8) (h : 4 ≤ l.length) : ∃ a b x y r, l = a :: b :: x :: y :: r := by
  rcases l with _ | ⟨a, _ | ⟨b, _ | ⟨x, _ | ⟨y, r⟩⟩⟩⟩
  · simp at h
  · simp at h
  · simp at h
  · simp at h
  · exact ⟨a, b, x, y, r, rfl⟩
/-- A text from which fields are taken off, and whether one went beyond. -/
abbrev Fld := List UInt8 × Bool
def piece (f : Fld) (k : Int) : List UInt8 × Fld := if k < 0 ∨ (f.1.length : Int) < k then ([], (f.1, true)) else (f.1.take k.toNat, (f.1.drop k.toNat, f.2))
def num (l : List UInt8) : Nat := l.foldl (fun n b => n * 256 + b.toNat) 0
theorem num_snoc (l : List UInt8) (b : UInt8) : num (l ++ [b]) = num l * 256 + b.toNat := by simp [num]
theorem num_one (b : UInt8) : num [b] = b.toNat := by simp [num]
theorem num_two (a b : UInt8) : num [a, b] = a.toNat * 256 + b.toNat := by simp [num]
theorem piece_bad (f : Fld) (k : Int) (h : k < 0 ∨ (f.1.length : Int) < k) : piece f k = ([], (f.1, true)) := if_pos h
theorem piece_good (f : Fld) (k : Nat) (h : k ≤ f.1.length) : piece f (k : Int) = (f.1.take k, (f.1.drop k, f.2)) := by
  unfold piece
  rw [if_neg (by omega)]
  simp
theorem piece_length (f : Fld) (k : Nat) : (piece f (k : Int)).1.length ≤ k := by
  by_cases h : k ≤ f.1.length
  · rw [piece_good f k h]; simp; omega
  · rw [piece_bad f k (by right; omega)]; simp
theorem piece_rest (f : Fld) (k : Int) : (piece f k).2.1.length ≤ f.1.length ∧ (piece f k).1.length ≤ f.1.length := by
  unfold piece
  split
  · simp
  · simp; omega
theorem piece_stays (f : Fld) (k : Int) (h : f.2 = true) : (piece f k).2.2 = true := by
  unfold piece
  split
  · rfl
  · exact h
theorem num_take (l : List UInt8) (k : Nat) (h : k < l.length) : num (l.take (k + 1)) = num (l.take k) * 256 + (l[k]).toNat := by
  rw [List.take_succ_eq_append_getElem h, num_snoc]
theorem num_small (l : List UInt8) (h : l.length ≤ 2) : num l < 65536 := by
  match l, h with
  | [], _ => decide
  | [a], _ => rw [num_one]; have := a.toNat_lt; omega
  | [a, b], _ => rw [num_two]; have := a.toNat_lt; have := b.toNat_lt; omega
theorem num_take_small (l : List UInt8) (k : Nat) (h : l.length ≤ 2) : num (l.take k) < 65536 := num_small _ (by rw [List.length_take]; omega)
/-- The steps by which a message is read off. -/
def s1 (l : List UInt8) : List UInt8 × Fld := piece (l, false) (1 : Nat)
def s2 (l : List UInt8) : List UInt8 × Fld := piece (s1 l).2 (1 : Nat)
def s3 (l : List UInt8) : List UInt8 × Fld := piece (s2 l).2 (2 : Nat)
def s4 (l : List UInt8) : Fld := ((piece (s3 l).2 ((num (s3 l).1 : Int) - 4)).1, (piece (s3 l).2 ((num (s3 l).1 : Int) - 4)).2.2)
def n7 (l : List UInt8) : List UInt8 × Fld := piece (s4 l) ((s4 l).1.length : Int)
def s5 (l : List UInt8) : List UInt8 × Fld := piece (s4 l) (1 : Nat)
def s6 (l : List UInt8) : List UInt8 × Fld := piece (s5 l).2 (num (s5 l).1 : Int)
def v7 (l : List UInt8) : List UInt8 × Fld := piece (s6 l).2 ((s6 l).2.1.length : Int)
/-- What a Get answers, by what was read. -/
def Way (a b q : Int) (v n : List UInt8) (s : Bool) (r : Msg × Int) : Prop := (s = true → r = (zero, 600)) ∧ (s = false → q ≠ 0 → r = (zero, q)) ∧ (s = false → q = 0 → r = ((a, b, v, n), 0))
theorem way_seen (a b : Int) (v n : List UInt8) : Way a b (code (a, b, v, n)) v n false (seen (a, b, v, n)) := by
  refine ⟨(by simp), fun _ h => if_neg h, fun _ h => if_pos h⟩
theorem way_short (a b q : Int) (v n : List UInt8) : Way a b q v n true (zero, 600) := ⟨fun _ => rfl, (by simp), (by simp)⟩
theorem short_n7 (l : List UInt8) (h : (s4 l).2 = true) : (n7 l).2.2 = true := piece_stays _ _ h
theorem short_v7 (l : List UInt8) (h : (s4 l).2 = true) : (v7 l).2.2 = true := by
  have h5 : (s5 l).2.2 = true := piece_stays _ _ h
  have h6 : (s6 l).2.2 = true := by unfold s6; exact piece_stays _ _ h5
  unfold v7
  exact piece_stays _ _ h6
theorem s1_cons (a : UInt8) (r : List UInt8) : s1 (a :: r) = ([a], (r, false)) := by unfold s1; rw [piece_good _ _ (by simp)]; simp
theorem s2_cons (a b : UInt8) (r : List UInt8) : s2 (a :: b :: r) = ([b], (r, false)) := by unfold s2; rw [s1_cons, piece_good _ _ (by simp)]; simp
theorem s3_cons (a b x y : UInt8) (r : List UInt8) : s3 (a :: b :: x :: y :: r) = ([x, y], (r, false)) := by unfold s3; rw [s2_cons, piece_good _ _ (by simp)]; simp
theorem s4_bad (a b x y : UInt8) (r : List UInt8) (h : x.toNat * 256 + y.toNat < 4 ∨ r.length + 4 < x.toNat * 256 + y.toNat) : (s4 (a :: b :: x :: y :: r)).2 = true := by
  unfold s4
  rw [s3_cons, num_two, piece_bad _ _ (by dsimp only; omega)]
theorem s4_good (a b x y : UInt8) (r : List UInt8) (h : ¬ (x.toNat * 256 + y.toNat < 4 ∨ r.length + 4 < x.toNat * 256 + y.toNat)) : s4 (a :: b :: x :: y :: r) = (r.take (x.toNat * 256 + y.toNat - 4), false) := by
  unfold s4
  rw [s3_cons, num_two, show (((x.toNat * 256 + y.toNat : Nat) : Int) - 4) = ((x.toNat * 256 + y.toNat - 4 : Nat) : Int) by omega, piece_good _ _ (by dsimp only; omega)]
theorem s4_short (l : List UInt8) (h : l.length < 4) : (s4 l).2 = true := by
  have e1 : (s3 l).2.2 = true := by
    match l, h with
    | [], _ => rfl
    | [a], _ => unfold s3 s2; rw [s1_cons]; rfl
    | [a, b], _ => unfold s3; rw [s2_cons]; rfl
    | [a, b, x], _ => unfold s3; rw [s2_cons]; rfl
  exact piece_stays _ _ e1
theorem way_none (l : List UInt8) (h : val (num (s1 l).1) = false) : Way (num (s1 l).1) (num (s2 l).1) (code ((num (s1 l).1 : Int), (num (s2 l).1 : Int), [], (n7 l).1)) [] (n7 l).1 (n7 l).2.2 (get l) := by
  by_cases hl : l.length < 4
  · rw [short_n7 l (s4_short l hl), get_short l hl]; exact way_short _ _ _ _ _
  · obtain ⟨a, b, x, y, r, rfl⟩ := four l (by omega)
    rw [get_four]
    by_cases hk : x.toNat * 256 + y.toNat < 4 ∨ r.length + 4 < x.toNat * 256 + y.toNat
    · rw [short_n7 _ (s4_bad a b x y r hk), if_pos hk]; exact way_short _ _ _ _ _
    · rw [s1_cons, num_one] at h
      rw [if_neg hk, s1_cons, s2_cons, num_one, num_one]
      unfold n7
      rw [s4_good a b x y r hk, piece_good _ _ (Nat.le_refl _)]
      dsimp only
      rw [List.take_length]
      unfold inner
      rw [if_neg (by rw [h]; simp)]
      exact way_seen _ _ _ _
theorem way_value (l : List UInt8) (h : val (num (s1 l).1) = true) : Way (num (s1 l).1) (num (s2 l).1) (code ((num (s1 l).1 : Int), (num (s2 l).1 : Int), (s6 l).1, (v7 l).1)) (s6 l).1 (v7 l).1 (v7 l).2.2 (get l) := by
  by_cases hl : l.length < 4
  · rw [short_v7 l (s4_short l hl), get_short l hl]; exact way_short _ _ _ _ _
  · obtain ⟨a, b, x, y, r, rfl⟩ := four l (by omega)
    rw [get_four]
    by_cases hk : x.toNat * 256 + y.toNat < 4 ∨ r.length + 4 < x.toNat * 256 + y.toNat
    · rw [short_v7 _ (s4_bad a b x y r hk), if_pos hk]; exact way_short _ _ _ _ _
    · rw [s1_cons, num_one] at h
      rw [if_neg hk, s1_cons, s2_cons, num_one, num_one]
      unfold v7 s6 s5
      rw [s4_good a b x y r hk]
      generalize r.take (x.toNat * 256 + y.toNat - 4) = t
      unfold inner
      rw [if_pos h]
      cases t with
      | nil =>
        have e : (piece (piece (piece (([], false) : Fld) (1 : Nat)).2 (num (piece (([], false) : Fld) (1 : Nat)).1 : Int)).2 ((piece (piece (([], false) : Fld) (1 : Nat)).2 (num (piece (([], false) : Fld) (1 : Nat)).1 : Int)).2.1.length : Int)).2.2 = true := piece_stays _ _ (piece_stays _ _ rfl)
        rw [e]
        exact way_short _ _ _ _ _
      | cons v s =>
        have e5 : piece ((v :: s, false) : Fld) (1 : Nat) = ([v], (s, false)) := by rw [piece_good _ _ (by simp)]; simp
        rw [e5, num_one]
        dsimp only
        by_cases hv : s.length < v.toNat
        · rw [if_pos hv, piece_bad (s, false) _ (by right; dsimp only; omega)]
          have e : (piece ((s, true) : Fld) (s.length : Int)).2.2 = true := piece_stays _ _ rfl
          dsimp only
          rw [e]
          exact way_short _ _ _ _ _
        · rw [if_neg hv, piece_good (s, false) _ (by dsimp only; omega)]
          dsimp only
          rw [piece_good _ _ (Nat.le_refl _)]
          dsimp only
          rw [List.take_length]
          exact way_seen _ _ _ _
end Go.Proofs.YtaagfmnpeimakaaDoor.Chp
