/-
  Stage 16, plain: a side that proves itself, as functions.
-/
import Derived.Test.YtaagfmnpeimakaaDoorHMath
import Derived.Test.YtaagfmnpeimakaaDoorDg5
namespace Go.Proofs.YtaagfmnpeimakaaDoor.Prf
structure Pf where
  name : List UInt8
  secret : List UInt8
  expect : List UInt8
  challenge : List UInt8
  left : Int
  proved : Bool
  taken : Bool
  failed : Bool
deriving DecidableEq
def fits (s : List UInt8) : Bool := decide (1 ≤ s.length) && decide (s.length ≤ 64)
def mayCh (c : List UInt8) : Bool := decide (1 ≤ c.length) && decide (c.length ≤ 255)
def fine (n s x : List UInt8) (t : Int) : Bool := decide (n.length ≤ 32) && fits s && fits x && decide (1 ≤ t) && decide (t ≤ 10)
def born (n s x : List UInt8) (t : Int) : Pf := ⟨n, s, x, [], t, false, false, false⟩
structure Pf.Fit (p : Pf) : Prop where
  name : p.name.length ≤ 32
  secret : p.secret.length ≤ 64
  expect : p.expect.length ≤ 64
  challenge : p.challenge.length ≤ 255
  left : p.left ≤ 10
  low : p.failed = false → 1 ≤ p.left
abbrev Msg := Chp.Msg
/-- What answers a challenge. -/
def sum (i : Int) (s c : List UInt8) : List UInt8 := Dig.md5 (Dig.parts i s c)
def ok : List UInt8 := [111, 107]
def no : List UInt8 := [110, 111]
def start (p : Pf) (c : List UInt8) : Pf × Msg × Int :=
  if mayCh c = false then (p, Chp.zero, 1600) else if p.challenge ≠ [] ∨ p.failed = true then (p, Chp.zero, 1601) else ({ p with challenge := c }, (1, 1, c, p.name), 0)
def again (p : Pf) : Pf × Msg × Int :=
  if p.challenge = [] ∨ p.proved = true ∨ p.failed = true then (p, Chp.zero, 1601)
  else if p.left ≤ 1 then ({ p with left := p.left - 1, failed := true }, Chp.zero, 1601)
  else ({ p with left := p.left - 1 }, (1, 1, p.challenge, p.name), 0)
/-- A response to the challenge. -/
def judge (p : Pf) (i : Int) (v : List UInt8) : Pf × List Msg :=
  if p.challenge = [] ∨ i ≠ 1 then (p, [])
  else if p.proved = true ∨ v = sum 1 p.expect p.challenge then ({ p with proved := true }, [(3, 1, [], ok)])
  else ({ p with failed := true }, [(4, 1, [], no)])
def receive (p : Pf) (m : Msg) : Pf × List Msg :=
  if m.1 = 1 then (p, [(2, m.2.1, sum m.2.1 p.secret m.2.2.1, p.name)])
  else if m.1 = 2 then judge p m.2.1 m.2.2.1
  else if m.1 = 3 then ({ p with taken := true }, [])
  else ({ p with failed := true }, [])
def take (p : Pf) (m : Msg) : Pf × List Msg × Int :=
  if Chp.code m ≠ 0 then (p, [], 1600) else if p.failed = true then (p, [], 0) else ((receive p m).1, (receive p m).2, 0)
theorem fine_parts {n s x : List UInt8} {t : Int} (h : fine n s x t = true) : n.length ≤ 32 ∧ fits s = true ∧ fits x = true ∧ 1 ≤ t ∧ t ≤ 10 := by
  unfold fine at h
  simp only [Bool.and_eq_true, decide_eq_true_eq] at h
  exact ⟨h.1.1.1.1, h.1.1.1.2, h.1.1.2, h.1.2, h.2⟩
theorem fits_len {s : List UInt8} (h : fits s = true) : 1 ≤ s.length ∧ s.length ≤ 64 := by
  unfold fits at h
  simpa using h
theorem born_fit {n s x : List UInt8} {t : Int} (h : fine n s x t = true) : (born n s x t).Fit := by
  obtain ⟨h1, h2, h3, h4, h5⟩ := fine_parts h
  exact ⟨h1, (fits_len h2).2, (fits_len h3).2, Nat.zero_le _, h5, fun _ => h4⟩
theorem start_fit {p : Pf} (h : p.Fit) (c : List UInt8) : (start p c).1.Fit := by
  unfold start
  split
  · exact h
  · rename_i h1
    split
    · exact h
    · have : mayCh c = true := by simpa using h1
      unfold mayCh at this
      simp only [Bool.and_eq_true, decide_eq_true_eq] at this
      exact ⟨h.name, h.secret, h.expect, this.2, h.left, h.low⟩
theorem again_fit {p : Pf} (h : p.Fit) : (again p).1.Fit := by
  unfold again
  split
  · exact h
  · rename_i h1
    have hl := h.left
    split
    · exact ⟨h.name, h.secret, h.expect, h.challenge, by show p.left - 1 ≤ 10; omega, fun k => by cases k⟩
    · exact ⟨h.name, h.secret, h.expect, h.challenge, by show p.left - 1 ≤ 10; omega, fun _ => by show 1 ≤ p.left - 1; omega⟩
theorem judge_fit {p : Pf} (h : p.Fit) (i : Int) (v : List UInt8) : (judge p i v).1.Fit := by
  unfold judge
  split
  · exact h
  · split
    · exact ⟨h.name, h.secret, h.expect, h.challenge, h.left, h.low⟩
    · exact ⟨h.name, h.secret, h.expect, h.challenge, h.left, fun k => by cases k⟩
theorem receive_fit {p : Pf} (h : p.Fit) (m : Msg) : (receive p m).1.Fit := by
  unfold receive
  split
  · exact h
  · split
    · exact judge_fit h _ _
    · split
      · exact ⟨h.name, h.secret, h.expect, h.challenge, h.left, h.low⟩
      · exact ⟨h.name, h.secret, h.expect, h.challenge, h.left, fun k => by cases k⟩
theorem take_fit {p : Pf} (h : p.Fit) (m : Msg) : (take p m).1.Fit := by
  unfold take
  split
  · exact h
  · split
    · exact h
    · exact receive_fit h m
end Go.Proofs.YtaagfmnpeimakaaDoor.Prf
