/-
  Plain lists: packets of automata as bytes, and back.
-/
import Derived.Test.YtmonoicdejallaaOMath
namespace Go.Proofs.Ytmonoicdejallaa.Ctl
/-- Code, id, options, data. -/
abbrev Pk := Int × Int × List Opt.Op × List UInt8
def byte (n : Int) : Bool := decide (0 ≤ n) && decide (n ≤ 255)
def conf (c : Int) : Bool := decide (1 ≤ c) && decide (c ≤ 4)
def own (p : Pk) : Bool := if conf p.1 then p.2.2.2.isEmpty else p.2.2.1.isEmpty
def body (p : Pk) : List UInt8 := if conf p.1 then Opt.wires p.2.2.1 else p.2.2.2
def code (p : Pk) : Int :=
  if byte p.1 = true ∧ byte p.2.1 = true then
    if Opt.code p.2.2.1 = 0 ∧ own p = true then (if (body p).length + 4 ≤ 2048 then 0 else 503) else 502
  else 501
def head (c i : Int) (n : Nat) : List UInt8 := [UInt8.ofNat c.toNat, UInt8.ofNat i.toNat, UInt8.ofNat (n / 256), UInt8.ofNat (n % 256)]
def wire (p : Pk) : List UInt8 := head p.1 p.2.1 ((body p).length + 4) ++ body p
def put (p : Pk) : List UInt8 := if code p = 0 then wire p else []
def zero : Pk := (0, 0, [], [])
def held (c i : Int) (b : List UInt8) : Pk × Int :=
  if conf c then (if (Opt.get b).2 = 0 then ((c, i, (Opt.get b).1, []), 0) else (zero, 502)) else ((c, i, [], b), 0)
def get : List UInt8 → Pk × Int
  | a :: b :: x :: y :: r =>
    if x.toNat * 256 + y.toNat < 4 ∨ r.length + 4 < x.toNat * 256 + y.toNat then (zero, 501)
    else if 2048 < x.toNat * 256 + y.toNat then (zero, 503)
    else held a.toNat b.toNat (r.take (x.toNat * 256 + y.toNat - 4))
  | _ => (zero, 500)
theorem head_length (c i : Int) (n : Nat) : (head c i n).length = 4 := rfl
theorem wire_length (p : Pk) : (wire p).length = (body p).length + 4 := by unfold wire; rw [List.length_append, head_length]; omega
theorem code_nil : Opt.code [] = 0 := by decide +kernel
/-- The ways of a Put. -/
theorem code_ways (c i : Int) (os : List Opt.Op) (d : List UInt8) :
    (byte c = false ∧ code (c, i, os, d) = 501) ∨ (byte c = true ∧ byte i = false ∧ code (c, i, os, d) = 501) ∨
    (byte c = true ∧ byte i = true ∧ Opt.code os ≠ 0 ∧ code (c, i, os, d) = 502) ∨
    (byte c = true ∧ byte i = true ∧ Opt.code os = 0 ∧ own (c, i, os, d) = false ∧ code (c, i, os, d) = 502) ∨
    (byte c = true ∧ byte i = true ∧ Opt.code os = 0 ∧ own (c, i, os, d) = true ∧ 2048 < (body (c, i, os, d)).length + 4 ∧ code (c, i, os, d) = 503) ∨
    (byte c = true ∧ byte i = true ∧ Opt.code os = 0 ∧ own (c, i, os, d) = true ∧ (body (c, i, os, d)).length + 4 ≤ 2048 ∧ code (c, i, os, d) = 0) := by
  unfold code
  dsimp only
  by_cases h1 : byte c = true
  · by_cases h2 : byte i = true
    · by_cases h3 : Opt.code os = 0
      · by_cases h4 : own (c, i, os, d) = true
        · by_cases h5 : (body (c, i, os, d)).length + 4 ≤ 2048
          · simp [h1, h2, h3, h4, h5]
          · have h6 : 2048 < (body (c, i, os, d)).length + 4 := by omega
            simp [h1, h2, h3, h4, h5, h6]
        · have h5 : own (c, i, os, d) = false := by simpa using h4
          simp [h1, h2, h3, h5]
      · simp [h1, h2, h3]
    · have h5 : byte i = false := by simpa using h2
      simp [h1, h5]
  · have h5 : byte c = false := by simpa using h1
    simp [h5]
theorem put_bad (p : Pk) (h : code p ≠ 0) : put p = [] := if_neg h
theorem put_good (p : Pk) (h : code p = 0) : put p = wire p := if_pos h
/-- The ways of a body: options alone, or data alone. -/
theorem body_ways (c i : Int) (os : List Opt.Op) (d : List UInt8) (h : own (c, i, os, d) = true) :
    (conf c = true ∧ d = [] ∧ body (c, i, os, d) = Opt.wires os) ∨ (conf c = false ∧ os = [] ∧ body (c, i, os, d) = d) := by
  unfold own at h
  unfold body
  dsimp only at *
  cases hc : conf c
  · rw [hc] at h
    simp at h
    simp [h]
  · rw [hc] at h
    simp at h
    simp [h]
/-- Behind each other in any case. -/
theorem body_both (c i : Int) (os : List Opt.Op) (d : List UInt8) (h : own (c, i, os, d) = true) : body (c, i, os, d) = Opt.wires os ++ d := by
  rcases body_ways c i os d h with ⟨_, rfl, e⟩ | ⟨_, rfl, e⟩
  · rw [e]; simp
  · rw [e]; simp [Opt.wires_nil]
theorem byte_ofNat (z : Int) (h : byte z = true) : ((UInt8.ofNat z.toNat).toNat : Int) = z := by
  unfold byte at h
  simp only [Bool.and_eq_true, decide_eq_true_eq] at h
  simp; omega
theorem two_ofNat (n : Nat) (h : n ≤ 2048) : (UInt8.ofNat (n / 256)).toNat * 256 + (UInt8.ofNat (n % 256)).toNat = n := by
  simp; omega
/-- What was put comes back, whatever stands behind it. -/
theorem get_wire (p : Pk) (m : List UInt8) (h : code p = 0) : get (wire p ++ m) = (p, 0) := by
  obtain ⟨c, i, os, d⟩ := p
  rcases code_ways c i os d with ⟨_, e⟩ | ⟨_, _, e⟩ | ⟨_, _, _, e⟩ | ⟨_, _, _, _, e⟩ | ⟨_, _, _, _, _, e⟩ | ⟨h1, h2, h3, h4, h5, _⟩
  · omega
  · omega
  · omega
  · omega
  · omega
  · have e := two_ofNat ((body (c, i, os, d)).length + 4) h5
    show get (_ :: _ :: _ :: _ :: (body (c, i, os, d) ++ m)) = _
    unfold get
    dsimp only
    rw [e, byte_ofNat c h1, byte_ofNat i h2, if_neg (by rw [List.length_append]; omega), if_neg (by omega)]
    have ht : (body (c, i, os, d) ++ m).take ((body (c, i, os, d)).length + 4 - 4) = body (c, i, os, d) := by simp
    rw [ht]
    unfold held
    rcases body_ways c i os d h4 with ⟨g1, rfl, g3⟩ | ⟨g1, rfl, g3⟩
    · rw [g1, g3, Opt.get_put os h3]; rfl
    · rw [g1, g3]; rfl
/-- One byte fewer is none. -/
theorem get_cut (p : Pk) (h : code p = 0) : (get ((wire p).take ((wire p).length - 1))).2 ≠ 0 := by
  obtain ⟨c, i, os, d⟩ := p
  have h5 : (body (c, i, os, d)).length + 4 ≤ 2048 := by
    rcases code_ways c i os d with ⟨_, e⟩ | ⟨_, _, e⟩ | ⟨_, _, _, e⟩ | ⟨_, _, _, _, e⟩ | ⟨_, _, _, _, _, e⟩ | ⟨h1, h2, h3, h4, h5, _⟩ <;> omega
  have e := two_ofNat ((body (c, i, os, d)).length + 4) h5
  rw [wire_length]
  unfold wire head
  generalize body (c, i, os, d) = b at *
  cases b with
  | nil => simp [get]
  | cons z r =>
    show (get (_ :: _ :: _ :: _ :: ((z :: r).take r.length))).2 ≠ 0
    unfold get
    dsimp only
    rw [e, if_pos (by right; rw [List.length_take, List.length_cons]; omega)]
    decide
theorem get_short (l : List UInt8) (h : l.length < 4) : get l = (zero, 500) := by
  match l, h with
  | [], _ => rfl
  | [_], _ => rfl
  | [_, _], _ => rfl
  | [_, _, _], _ => rfl
def size (l : List UInt8) (h : 4 ≤ l.length) : Nat := (l[2]'(by omega)).toNat * 256 + (l[3]'(by omega)).toNat
theorem four (l : List UInt8) (h : 4 ≤ l.length) : ∃ a b x y r, l = a :: b :: x :: y :: r := by
  rcases l with _ | ⟨a, _ | ⟨b, _ | ⟨x, _ | ⟨y, r⟩⟩⟩⟩
  · simp at h
  · simp at h
  · simp at h
  · simp at h
  · exact ⟨a, b, x, y, r, rfl⟩
theorem size_four (a b x y : UInt8) (r : List UInt8) (h : 4 ≤ (a :: b :: x :: y :: r).length) : size (a :: b :: x :: y :: r) h = x.toNat * 256 + y.toNat := rfl
theorem get_four (a b x y : UInt8) (r : List UInt8) : get (a :: b :: x :: y :: r) = if x.toNat * 256 + y.toNat < 4 ∨ r.length + 4 < x.toNat * 256 + y.toNat then (zero, 501)
    else if 2048 < x.toNat * 256 + y.toNat then (zero, 503)
    else held a.toNat b.toNat (r.take (x.toNat * 256 + y.toNat - 4)) := rfl
theorem get_length (l : List UInt8) (h : 4 ≤ l.length) (hs : size l h < 4 ∨ l.length < size l h) : get l = (zero, 501) := by
  obtain ⟨a, b, x, y, r, rfl⟩ := four l h
  rw [size_four] at hs
  rw [get_four, if_pos (by simpa using hs)]
theorem get_long (l : List UInt8) (h : 4 ≤ l.length) (h1 : 4 ≤ size l h) (h2 : size l h ≤ l.length) (h3 : 2048 < size l h) : get l = (zero, 503) := by
  obtain ⟨a, b, x, y, r, rfl⟩ := four l h
  rw [size_four] at h1 h2 h3
  simp only [List.length_cons] at h2
  rw [get_four, if_neg (by omega), if_pos h3]
theorem get_held (l : List UInt8) (h : 4 ≤ l.length) (h1 : 4 ≤ size l h) (h2 : size l h ≤ l.length) (h3 : size l h ≤ 2048) : get l = held ((l[0]'(by omega)).toNat) ((l[1]'(by omega)).toNat) ((l.take (size l h)).drop 4) := by
  obtain ⟨a, b, x, y, r, rfl⟩ := four l h
  rw [size_four] at h1 h2 h3 ⊢
  simp only [List.length_cons] at h2
  rw [get_four, if_neg (by omega), if_neg (by omega)]
  obtain ⟨k, hk⟩ : ∃ k, x.toNat * 256 + y.toNat = k + 4 := ⟨_, (Nat.sub_add_cancel h1).symm⟩
  rw [hk]
  simp
theorem held_conf (c i : Int) (b : List UInt8) (h : conf c = true) (hg : (Opt.get b).2 = 0) : held c i b = ((c, i, (Opt.get b).1, []), 0) := by unfold held; rw [h, if_pos rfl, if_pos hg]
theorem held_bad (c i : Int) (b : List UInt8) (h : conf c = true) (hg : (Opt.get b).2 ≠ 0) : held c i b = (zero, 502) := by unfold held; rw [h, if_pos rfl, if_neg hg]
theorem held_data (c i : Int) (b : List UInt8) (h : conf c = false) : held c i b = ((c, i, [], b), 0) := by unfold held; rw [h]; rfl
/-- What a Get gives is small. -/
theorem get_count (l : List UInt8) : (get l).1.2.2.1.length ≤ 1024 ∧ (get l).1.2.2.2.length ≤ 2048 := by
  by_cases h : l.length < 4
  · rw [get_short l h]; decide
  · by_cases h1 : size l (by omega) < 4 ∨ l.length < size l (by omega)
    · rw [get_length l (by omega) h1]; decide
    · by_cases h2 : 2048 < size l (by omega)
      · rw [get_long l (by omega) (by omega) (by omega) h2]; decide
      · rw [get_held l (by omega) (by omega) (by omega) (by omega)]
        generalize hb : (l.take (size l (by omega))).drop 4 = b
        have hbl : b.length ≤ 2048 := by rw [← hb, List.length_drop, List.length_take]; omega
        have hc := Opt.get_count b
        cases hcf : conf (((l[0]'(by omega)).toNat : Nat) : Int)
        · rw [held_data _ _ _ hcf]; exact ⟨by simp, hbl⟩
        · by_cases hg : (Opt.get b).2 = 0
          · rw [held_conf _ _ _ hcf hg]; exact ⟨by show (Opt.get b).1.length ≤ 1024; omega, by simp⟩
          · rw [held_bad _ _ _ hcf hg]; decide
end Go.Proofs.Ytmonoicdejallaa.Ctl
