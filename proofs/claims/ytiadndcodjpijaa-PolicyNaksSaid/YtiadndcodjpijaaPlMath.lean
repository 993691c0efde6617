/-
  Stages 14 to 16, plain: which options a link asks for, how options are judged, learnt, taken.
-/
import Derived.Test.YtiadndcodjpijaaOMath
namespace Go.Proofs.Ytiadndcodjpijaa.Pol
abbrev Op := Go.Proofs.Ytiadndcodjpijaa.Opt.Op
structure Lk where
  mru : Int
  magic : Int
  mrru : Int
  short : Bool
  disc : List UInt8
  num : Int
deriving DecidableEq
def zero : Lk := ⟨0, 0, 0, false, [], 0⟩
def unit (x : Int) : Bool := decide (128 ≤ x) && decide (x ≤ 1500)
def size (x : Int) : Bool := x == 0 || unit x
def may (l : Lk) : Bool := size l.mru && size l.mrru && decide (0 ≤ l.magic) && decide (l.magic ≤ 4294967295) && decide (l.disc.length ≤ 20) && decide (0 ≤ l.num) && decide (l.num ≤ 65535)
/-- A number in so many bytes, the high one first. -/
def be : Nat → Nat → List UInt8
  | 0, _ => []
  | j + 1, n => UInt8.ofNat (n / 256 ^ j) :: be j n
def val (l : List UInt8) : Nat := l.foldl (fun x b => x * 256 + b.toNat) 0
def opt (k : Int) (x : Int) (many : Nat) : List Op := if x = 0 then [] else [(k, be many x.toNat)]
def asks (l : Lk) : List Op := opt 1 l.mru 2 ++ opt 5 l.magic 4 ++ opt 17 l.mrru 2 ++ (if l.short then [(18, [])] else []) ++ (if l.disc = [] then [] else [(19, l.disc)]) ++ opt 23 l.num 2
def ask (l : Lk) : List Op × Int := if may l then (asks l, 0) else ([], 1400)
def right (o : Op) : Bool :=
  if o.1 = 1 ∨ o.1 = 17 ∨ o.1 = 23 then o.2.length == 2
  else if o.1 = 5 then o.2.length == 4
  else if o.1 = 18 then o.2.length == 0
  else if o.1 = 19 then decide (1 ≤ o.2.length) && decide (o.2.length ≤ 20)
  else false
def fit (o : Op) : Bool := decide (0 ≤ o.1) && decide (o.1 ≤ 255) && decide (o.2.length ≤ 253)
def fits (os : List Op) : Bool := os.all fit
def turn (m : Int) : Int := if m = 4294967295 then 1 else 4294967295 - m
/-- A number of any bytes, as a machine reckons it. -/
def numI (f : Int → Int → Int) (l : List UInt8) : Int := l.foldl (fun x b => f x b.toNat) 0
def g (os : List Op) (k : Nat) : Op := os.getD k (0, [])
theorem g_eq (os : List Op) (k : Nat) (h : k < os.length) : g os k = os[k] := by simp [g, h]
section
variable (nm : List UInt8 → Int)
def better (own : Lk) (o : Op) : Option Op :=
  if (o.1 = 1 ∨ o.1 = 17) ∧ unit (nm o.2) = false then some (o.1, be 2 1500)
  else if o.1 = 5 ∧ (nm o.2 = 0 ∨ nm o.2 = own.magic) then some (o.1, be 4 (turn own.magic).toNat)
  else none
def twice (os : List Op) (k : Nat) : Bool := (os.take k).any (fun o => o.1 == (g os k).1)
def bad (own : Lk) (os : List Op) (k : Nat) : Bool := !right (g os k) || twice os k || ((g os k).1 == 18 && !own.short)
def rejs (own : Lk) (os : List Op) : Nat → List Op
  | 0 => []
  | k + 1 => rejs own os k ++ (if bad own os k then [g os k] else [])
def naks (own : Lk) (os : List Op) : Nat → List Op
  | 0 => []
  | k + 1 => naks own os k ++ (if bad own os k then [] else (better nm own (g os k)).toList)
def judge (own : Lk) (os : List Op) : Int × List Op × Int :=
  if may own && fits os then
    (if rejs own os os.length ≠ [] then (2, rejs own os os.length, 0) else if naks nm own os os.length ≠ [] then (1, naks nm own os os.length, 0) else (0, os, 0))
  else (0, [], 1400)
def without (l : Lk) (k : Int) : Lk :=
  if k = 1 then { l with mru := 0 } else if k = 5 then { l with magic := 0 } else if k = 17 then { l with mrru := 0 } else if k = 18 then { l with short := false } else if k = 19 then { l with disc := [] } else if k = 23 then { l with num := 0 } else l
def taught (l : Lk) (o : Op) : Lk :=
  if o.1 = 1 ∧ l.mru ≠ 0 ∧ unit (nm o.2) = true then { l with mru := nm o.2 }
  else if o.1 = 5 ∧ l.magic ≠ 0 ∧ nm o.2 ≠ 0 then { l with magic := nm o.2 }
  else if o.1 = 17 ∧ l.mrru ≠ 0 ∧ unit (nm o.2) = true then { l with mrru := nm o.2 }
  else if o.1 = 19 ∧ l.disc ≠ [] then { l with disc := o.2 }
  else if o.1 = 23 ∧ l.num ≠ 0 then { l with num := nm o.2 }
  else l
def lesson (code : Int) (l : Lk) (o : Op) : Lk := if right o then (if code = 4 then without l o.1 else taught nm l o) else l
def learns (code : Int) (l : Lk) (os : List Op) : Lk := os.foldl (lesson nm code) l
def learn (l : Lk) (code : Int) (os : List Op) : Lk × Int := if may l && (code == 3 || code == 4) then (learns nm code l os, 0) else (zero, 1400)
def takes (l : Lk) (o : Op) : Lk :=
  if o.1 = 1 then { l with mru := nm o.2 } else if o.1 = 5 then { l with magic := nm o.2 } else if o.1 = 17 then { l with mrru := nm o.2 } else if o.1 = 18 then { l with short := true } else if o.1 = 19 then { l with disc := o.2 } else if o.1 = 23 then { l with num := nm o.2 } else l
def fine (os : List Op) (k : Nat) : Bool := right (g os k) && !twice os k
def allFine (os : List Op) : Nat → Bool
  | 0 => true
  | k + 1 => allFine os k && fine os k
def taken (os : List Op) : Lk × Int := if allFine os os.length && may (os.foldl (takes nm) zero) then (os.foldl (takes nm) zero, 0) else (zero, 1400)
end
theorem be_length (j n : Nat) : (be j n).length = j := by
  induction j with
  | zero => rfl
  | succ j ih => simp [be, ih]
theorem take_snoc (os : List Op) (k : Nat) (h : k < os.length) : os.take (k + 1) = os.take k ++ [g os k] := by rw [g_eq os k h]; exact List.take_succ_eq_append_getElem h
theorem learns_snoc (nm : List UInt8 → Int) (code : Int) (l : Lk) (os : List Op) (k : Nat) (h : k < os.length) : learns nm code l (os.take (k + 1)) = lesson nm code (learns nm code l (os.take k)) (g os k) := by
  unfold learns
  rw [take_snoc os k h, List.foldl_append]
  rfl
theorem may_iff (l : Lk) : may l = true ↔ size l.mru = true ∧ size l.mrru = true ∧ 0 ≤ l.magic ∧ l.magic ≤ 4294967295 ∧ l.disc.length ≤ 20 ∧ 0 ≤ l.num ∧ l.num ≤ 65535 := by
  unfold may
  simp only [Bool.and_eq_true, decide_eq_true_eq, and_assoc]
end Go.Proofs.Ytiadndcodjpijaa.Pol
