/-
  Plain lists: datagrams of exchanges as bytes, and back.
-/
import Derived.Test.YtmonoicdejallaaCMath
namespace Go.Proofs.Ytmonoicdejallaa.Bap
/-- Code, id, answer, options. -/
abbrev Bp := Int × Int × Int × List Opt.Op
def resp (c : Int) : Bool := c % 2 == 0
def gd (c i : Int) : Bool := decide (1 ≤ c) && decide (c ≤ 8) && Ctl.byte i
/-- An answer that fits the code. -/
def fit (c a : Int) : Bool := if resp c then Ctl.byte a else a == 0
def lead (c a : Int) : List UInt8 := if resp c then [UInt8.ofNat a.toNat] else []
def rest (p : Bp) : List UInt8 := lead p.1 p.2.2.1 ++ Opt.wires p.2.2.2
def code (p : Bp) : Int :=
  if gd p.1 p.2.1 = true ∧ fit p.1 p.2.2.1 = true ∧ Opt.code p.2.2.2 = 0 then (if (rest p).length + 4 ≤ 2048 then 0 else 901) else 900
def wire (p : Bp) : List UInt8 := Ctl.head p.1 p.2.1 ((rest p).length + 4) ++ rest p
def put (p : Bp) : List UInt8 := if code p = 0 then wire p else []
def zero : Bp := (0, 0, 0, [])
/-- Options behind a head. -/
def held (c i a : Int) (b : List UInt8) : Bp × Int := if (Opt.get b).2 = 0 then ((c, i, a, (Opt.get b).1), 0) else (zero, 900)
def body (c i : Int) (b : List UInt8) : Bp × Int :=
  if resp c then (match b with | [] => (zero, 900) | z :: t => held c i z.toNat t) else held c i 0 b
def get : List UInt8 → Bp × Int
  | a :: b :: x :: y :: r =>
    if x.toNat * 256 + y.toNat < 4 ∨ r.length + 4 < x.toNat * 256 + y.toNat ∨ gd a.toNat b.toNat = false then (zero, 900)
    else if 2048 < x.toNat * 256 + y.toNat then (zero, 901)
    else body a.toNat b.toNat (r.take (x.toNat * 256 + y.toNat - 4))
  | _ => (zero, 900)
theorem wire_length (p : Bp) : (wire p).length = (rest p).length + 4 := by unfold wire; rw [List.length_append, Ctl.head_length]; omega
theorem put_bad (p : Bp) (h : code p ≠ 0) : put p = [] := if_neg h
theorem put_good (p : Bp) (h : code p = 0) : put p = wire p := if_pos h
theorem lead_resp (c a : Int) (h : resp c = true) : lead c a = [UInt8.ofNat a.toNat] := if_pos h
theorem lead_req (c a : Int) (h : resp c = false) : lead c a = [] := by unfold lead; rw [h]; rfl
theorem fit_resp (c a : Int) (h : resp c = true) : fit c a = Ctl.byte a := if_pos h
theorem fit_req (c a : Int) (h : resp c = false) : fit c a = (a == 0) := by unfold fit; rw [h]; rfl
theorem byte_iff (z : Int) : Ctl.byte z = true ↔ 0 ≤ z ∧ z ≤ 255 := by simp [Ctl.byte]
theorem byte_zero : Ctl.byte 0 = true := by decide
theorem byte_nat (b : UInt8) : Ctl.byte (b.toNat : Int) = true := by have := b.toNat_lt; rw [byte_iff]; omega
theorem gd_iff (c i : Int) : gd c i = true ↔ 1 ≤ c ∧ c ≤ 8 ∧ 0 ≤ i ∧ i ≤ 255 := by
  unfold gd
  rw [Bool.and_eq_true, Bool.and_eq_true, byte_iff, decide_eq_true_eq, decide_eq_true_eq, and_assoc]
theorem fit_byte (c a : Int) (h : fit c a = true) : Ctl.byte a = true := by
  cases hr : resp c
  · rw [fit_req c a hr] at h
    obtain rfl : a = 0 := by simpa using h
    exact byte_zero
  · rwa [fit_resp c a hr] at h
/-- The ways of a Put. -/
theorem code_ways (c i a : Int) (os : List Opt.Op) :
    ((gd c i = false ∨ fit c a = false ∨ Opt.code os ≠ 0) ∧ code (c, i, a, os) = 900) ∨
    (gd c i = true ∧ fit c a = true ∧ Opt.code os = 0 ∧ 2048 < (rest (c, i, a, os)).length + 4 ∧ code (c, i, a, os) = 901) ∨
    (gd c i = true ∧ fit c a = true ∧ Opt.code os = 0 ∧ (rest (c, i, a, os)).length + 4 ≤ 2048 ∧ code (c, i, a, os) = 0) := by
  unfold code
  dsimp only
  by_cases h1 : gd c i = true
  · by_cases h2 : fit c a = true
    · by_cases h3 : Opt.code os = 0
      · by_cases h4 : (rest (c, i, a, os)).length + 4 ≤ 2048
        · simp [h1, h2, h3, h4]
        · have h5 : 2048 < (rest (c, i, a, os)).length + 4 := by omega
          simp [h1, h2, h3, h4, h5]
      · simp [h1, h2, h3]
    · have h5 : fit c a = false := by simpa using h2
      simp [h1, h5]
  · have h5 : gd c i = false := by simpa using h1
    simp [h5]
theorem code_size (p : Bp) (h : code p = 0) : (rest p).length + 4 ≤ 2048 := by
  obtain ⟨c, i, a, os⟩ := p
  rcases code_ways c i a os with ⟨_, e⟩ | ⟨_, _, _, _, e⟩ | ⟨_, _, _, h4, _⟩ <;> omega
theorem body_resp (c i : Int) (z : UInt8) (t : List UInt8) (h : resp c = true) : body c i (z :: t) = held c i z.toNat t := by unfold body; rw [if_pos h]
theorem body_none (c i : Int) (h : resp c = true) : body c i [] = (zero, 900) := by unfold body; rw [if_pos h]
theorem body_req (c i : Int) (b : List UInt8) (h : resp c = false) : body c i b = held c i 0 b := by unfold body; rw [h]; rfl
theorem held_good (c i a : Int) (b : List UInt8) (h : (Opt.get b).2 = 0) : held c i a b = ((c, i, a, (Opt.get b).1), 0) := if_pos h
theorem held_bad (c i a : Int) (b : List UInt8) (h : (Opt.get b).2 ≠ 0) : held c i a b = (zero, 900) := if_neg h
theorem get_four (a b x y : UInt8) (r : List UInt8) : get (a :: b :: x :: y :: r) =
    if x.toNat * 256 + y.toNat < 4 ∨ r.length + 4 < x.toNat * 256 + y.toNat ∨ gd a.toNat b.toNat = false then (zero, 900)
    else if 2048 < x.toNat * 256 + y.toNat then (zero, 901)
    else body a.toNat b.toNat (r.take (x.toNat * 256 + y.toNat - 4)) := rfl
/-- What was put comes back, whatever stands behind it. -/
theorem get_wire (p : Bp) (m : List UInt8) (h : code p = 0) : get (wire p ++ m) = (p, 0) := by
  have hs := code_size p h
  obtain ⟨c, i, a, os⟩ := p
  rcases code_ways c i a os with ⟨_, e⟩ | ⟨_, _, _, _, e⟩ | ⟨h1, h2, h3, h4, _⟩
  · omega
  · omega
  · have g := (gd_iff c i).1 h1
    have e := Ctl.two_ofNat ((rest (c, i, a, os)).length + 4) h4
    show get (_ :: _ :: _ :: _ :: (rest (c, i, a, os) ++ m)) = _
    rw [get_four]
    dsimp only
    rw [e, Ctl.byte_ofNat c ((byte_iff c).2 (by omega)), Ctl.byte_ofNat i ((byte_iff i).2 (by omega)), if_neg (by rw [List.length_append, h1]; simp), if_neg (by omega)]
    have ht : (rest (c, i, a, os) ++ m).take ((rest (c, i, a, os)).length + 4 - 4) = rest (c, i, a, os) := by simp
    rw [ht]
    unfold rest
    dsimp only
    cases hr : resp c
    · rw [body_req c i _ hr, lead_req c a hr, List.nil_append, held_good _ _ _ _ (by rw [Opt.get_put os h3]), Opt.get_put os h3]
      rw [fit_req c a hr] at h2
      obtain rfl : a = 0 := by simpa using h2
      rfl
    · rw [lead_resp c a hr, List.singleton_append, body_resp c i _ _ hr, held_good _ _ _ _ (by rw [Opt.get_put os h3]), Opt.get_put os h3]
      rw [fit_resp c a hr] at h2
      rw [Ctl.byte_ofNat a h2]
/-- One byte fewer is none. -/
theorem get_cut (p : Bp) (h : code p = 0) : (get ((wire p).take ((wire p).length - 1))).2 = 900 := by
  have e := Ctl.two_ofNat ((rest p).length + 4) (code_size p h)
  rw [wire_length]
  unfold wire Ctl.head
  generalize rest p = b at *
  cases b with
  | nil => simp [get]
  | cons z r =>
    show (get (_ :: _ :: _ :: _ :: ((z :: r).take r.length))).2 = 900
    rw [get_four, e, if_pos (by right; left; rw [List.length_take, List.length_cons]; omega)]
theorem get_short (l : List UInt8) (h : l.length < 4) : get l = (zero, 900) := by
  match l, h with
  | [], _ => rfl
  | [_], _ => rfl
  | [_, _], _ => rfl
  | [_, _, _], _ => rfl
/-- A head that is wrong. -/
theorem get_wrong (l : List UInt8) (h : 4 ≤ l.length) (hs : Ctl.size l h < 4 ∨ l.length < Ctl.size l h ∨ gd ((l[0]'(by omega)).toNat) ((l[1]'(by omega)).toNat) = false) : get l = (zero, 900) := by
  obtain ⟨a, b, x, y, r, rfl⟩ := Ctl.four l h
  rw [Ctl.size_four] at hs
  rw [get_four, if_pos (by simpa using hs)]
theorem get_long (l : List UInt8) (h : 4 ≤ l.length) (h1 : 4 ≤ Ctl.size l h) (h2 : Ctl.size l h ≤ l.length) (h4 : gd ((l[0]'(by omega)).toNat) ((l[1]'(by omega)).toNat) = true) (h3 : 2048 < Ctl.size l h) : get l = (zero, 901) := by
  obtain ⟨a, b, x, y, r, rfl⟩ := Ctl.four l h
  rw [Ctl.size_four] at h1 h2 h3
  simp only [List.length_cons] at h2
  simp only [List.getElem_cons_zero, List.getElem_cons_succ] at h4
  rw [get_four, if_neg (by rw [h4]; simp; omega), if_pos h3]
theorem get_body (l : List UInt8) (h : 4 ≤ l.length) (h1 : 4 ≤ Ctl.size l h) (h2 : Ctl.size l h ≤ l.length) (h4 : gd ((l[0]'(by omega)).toNat) ((l[1]'(by omega)).toNat) = true) (h3 : Ctl.size l h ≤ 2048) :
    get l = body ((l[0]'(by omega)).toNat) ((l[1]'(by omega)).toNat) ((l.take (Ctl.size l h)).drop 4) := by
  obtain ⟨a, b, x, y, r, rfl⟩ := Ctl.four l h
  rw [Ctl.size_four] at h1 h2 h3 ⊢
  simp only [List.length_cons] at h2
  simp only [List.getElem_cons_zero, List.getElem_cons_succ] at h4 ⊢
  rw [get_four, if_neg (by rw [h4]; simp; omega), if_neg (by omega)]
  obtain ⟨k, hk⟩ : ∃ k, x.toNat * 256 + y.toNat = k + 4 := ⟨_, (Nat.sub_add_cancel h1).symm⟩
  rw [hk]
  simp
theorem held_count (c i a : Int) (b : List UInt8) : (held c i a b).1.2.2.2.length ≤ 1024 := by
  have := Opt.get_count b
  by_cases h : (Opt.get b).2 = 0
  · rw [held_good c i a b h]; show (Opt.get b).1.length ≤ 1024; omega
  · rw [held_bad c i a b h]; decide
theorem body_count (c i : Int) (b : List UInt8) : (body c i b).1.2.2.2.length ≤ 1024 := by
  cases hr : resp c
  · rw [body_req c i b hr]; exact held_count _ _ _ _
  · cases b with
    | nil => rw [body_none c i hr]; decide
    | cons z t => rw [body_resp c i z t hr]; exact held_count _ _ _ _
/-- What a Get gives is small. -/
theorem get_count (l : List UInt8) : (get l).1.2.2.2.length ≤ 1024 := by
  by_cases h : l.length < 4
  · rw [get_short l h]; decide
  · have h4 : 4 ≤ l.length := by omega
    by_cases h1 : Ctl.size l h4 < 4 ∨ l.length < Ctl.size l h4 ∨ gd ((l[0]'(by omega)).toNat) ((l[1]'(by omega)).toNat) = false
    · rw [get_wrong l h4 h1]; decide
    · have h5 : gd ((l[0]'(by omega)).toNat) ((l[1]'(by omega)).toNat) = true := by
        cases hg : gd ((l[0]'(by omega)).toNat) ((l[1]'(by omega)).toNat)
        · exact absurd (.inr (.inr hg)) h1
        · rfl
      by_cases h2 : 2048 < Ctl.size l h4
      · rw [get_long l h4 (by omega) (by omega) h5 h2]; decide
      · rw [get_body l h4 (by omega) (by omega) h5 (by omega)]; exact body_count _ _ _
end Go.Proofs.Ytmonoicdejallaa.Bap
