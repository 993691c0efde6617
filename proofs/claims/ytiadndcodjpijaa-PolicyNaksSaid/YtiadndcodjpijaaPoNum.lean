/-
  Numbers of a few bytes as a machine reckons them: back and forth.
-/
import Derived.Test.YtiadndcodjpijaaPlN
import Derived.Test.YtiadndcodjpijaaHigh
namespace Go.Proofs.Ytiadndcodjpijaa.Pol
theorem val_go (l : List UInt8) : ∀ x : Nat, l.foldl (fun x b => x * 256 + b.toNat) x = x * 256 ^ l.length + val l := by
  induction l with
  | nil => intro x; simp [val]
  | cons b r ih =>
    intro x
    have e : val (b :: r) = b.toNat * 256 ^ r.length + val r := by
      show r.foldl (fun x b => x * 256 + b.toNat) (0 * 256 + b.toNat) = _
      rw [ih, Nat.zero_mul, Nat.zero_add]
    rw [List.foldl_cons, ih, e, List.length_cons, Nat.pow_succ, Nat.add_mul, Nat.mul_assoc, Nat.mul_comm 256, Nat.add_assoc]
theorem val_cons (b : UInt8) (r : List UInt8) : val (b :: r) = b.toNat * 256 ^ r.length + val r := by
  have e := val_go r (0 * 256 + b.toNat)
  show r.foldl (fun x b => x * 256 + b.toNat) (0 * 256 + b.toNat) = _
  rw [e, Nat.zero_mul, Nat.zero_add]
theorem val_lt (l : List UInt8) : val l < 256 ^ l.length := by
  induction l with
  | nil => simp [val]
  | cons b r ih =>
    have hb := b.toNat_lt
    rw [val_cons, List.length_cons, Nat.pow_succ, Nat.mul_comm (256 ^ r.length)]
    have : b.toNat * 256 ^ r.length ≤ 255 * 256 ^ r.length := Nat.mul_le_mul_right _ (by omega)
    omega
theorem val_be (m : Nat) : ∀ n, n < 256 ^ m → val (be m n) = n := by
  have h : ∀ m n, val (be m n) = n % 256 ^ m := by
    intro m
    induction m with
    | zero => intro n; simp [be, val, Nat.mod_one]
    | succ j ih =>
      intro n
      show val (UInt8.ofNat (n / 256 ^ j) :: be j n) = _
      rw [val_cons, ih, be_length, Nat.pow_succ, Nat.mod_mul]
      simp only [UInt8.toNat_ofNat']
      rw [Nat.mul_comm, Nat.add_comm]
  intro n hn
  rw [h, Nat.mod_eq_of_lt hn]
end Go.Proofs.Ytiadndcodjpijaa.Pol
namespace Go.Proofs.Ytiadndcodjpijaa.Pl
open Go.RowKit
theorem more_nat (x b : Nat) (hx : x < 36028797018963968) (hb : b < 256) : more (x : Int) (b : Int) = ((x * 256 + b : Nat) : Int) := by
  unfold more
  have e1 : wrap64 ((x : Int) * 256) = ((256 * x : Nat) : Int) := by rw [IntWalk.wrap64_in _ ⟨by omega, by omega⟩]; omega
  have e2 : wrap64 (b : Int) = (b : Int) := IntWalk.wrap64_in _ ⟨by omega, by omega⟩
  rw [e1, e2, i64_or_nat _ _ (by omega) (by omega)]
  have h := Nat.two_pow_add_eq_or_of_lt (i := 8) (b := b) (by omega) x
  have h2 : 256 * x ||| b = 256 * x + b := by simpa using h.symm
  rw [h2]
  congr 1
  omega
theorem nm_go (l : List UInt8) : ∀ x : Nat, (x + 1) * 256 ^ l.length ≤ 36028797018963968 → l.foldl (fun (x : Int) b => more x (b.toNat : Int)) (x : Int) = ((l.foldl (fun x b => x * 256 + b.toNat) x : Nat) : Int) := by
  induction l with
  | nil => intro x _; rfl
  | cons b r ih =>
    intro x hx
    have hb := b.toNat_lt
    have hp : 1 ≤ 256 ^ r.length := Nat.one_le_pow _ _ (by omega)
    rw [List.length_cons, Nat.pow_succ, Nat.mul_comm (256 ^ r.length), ← Nat.mul_assoc] at hx
    have h1 : (x + 1) * 256 * 1 ≤ (x + 1) * 256 * 256 ^ r.length := Nat.mul_le_mul_left _ hp
    rw [List.foldl_cons, List.foldl_cons, more_nat x b.toNat (by omega) (by omega)]
    refine ih _ (Nat.le_trans (Nat.mul_le_mul_right _ ?_) hx)
    omega
/-- A number of at most six bytes. -/
theorem nm_val (l : List UInt8) (h : l.length ≤ 6) : nm l = ((Pol.val l : Nat) : Int) := by
  refine nm_go l 0 ?_
  have : 256 ^ l.length ≤ 256 ^ 6 := Nat.pow_le_pow_right (by omega) h
  omega
theorem nm_be (m n : Nat) (hm : m ≤ 6) (h : n < 256 ^ m) : nm (Pol.be m n) = (n : Int) := by
  rw [nm_val _ (by rw [Pol.be_length]; exact hm), Pol.val_be m n h]
theorem nm_bounds (l : List UInt8) (h : l.length ≤ 6) : 0 ≤ nm l ∧ nm l < ((256 ^ l.length : Nat) : Int) := by
  rw [nm_val l h]
  have := Pol.val_lt l
  omega
end Go.Proofs.Ytiadndcodjpijaa.Pl
