/-
  Contracts of the fields of a text behind a pointer: a number, the end, a text.
-/
import Derived.Test.YtkdlhonbpciceaaH1
import Derived.Test.YtkdlhonbpciceaaHigh
import Derived.Test.YtkdlhonbpciceaaBytes
import Derived.Test.YtkdlhonbpciceaaClone
namespace Go.Proofs.Ytkdlhonbpciceaa.H
open Go.RowKit
theorem or_low (n : Nat) (b : UInt8) (h : n < 65536) : bits BinOp.or IntKind.i64 (wrap64 ((n : Int) * 256)) (wrap64 (b.toNat : Int)) = ((n * 256 + b.toNat : Nat) : Int) := by
  have hb := b.toNat_lt
  have e2 : wrap64 (b.toNat : Int) = (b.toNat : Int) := wrap64_nat _ (by omega)
  have e3 : wrap64 ((n : Int) * 256) = ((256 * n : Nat) : Int) := by
    rw [IntWalk.wrap64_in _ ⟨by omega, by omega⟩]; omega
  rw [e2, e3]
  have : n * 256 + b.toNat = (256 * n) ||| b.toNat := by
    have h := Nat.two_pow_add_eq_or_of_lt (i := 8) (b := b.toNat) (by omega) n
    rw [Nat.mul_comm]
    simpa using h
  rw [this]
  exact i64_or_nat _ _ (by omega) (by omega)
set_option maxHeartbeats 800000 in
theorem number_walk (B k : Nat) (l : List UInt8) (w : World) (Q : World → Prop) (hl : l.length ≤ 2)
    (hQ : ∀ a b, Below a.heap.size a b → Q a → Q b)
    (P : Hid (Calls Try.prog 21 #[.pointer (some ⟨B, 0, none⟩), .int .i64 k] w fun e w' => e = .returned (.string ⟨l.toArray⟩) ∧ Q w')) :
    Calls Try.prog 17 #[.pointer (some ⟨B, 0, none⟩), .int .i64 k] w fun e w' => e = .returned (.int .i64 (Chp.num l)) ∧ Q w' := by
  have HQ := Lib.hid hQ
  clear hQ
  go_enter Try.func17, Try.ntmps17
  go_wp2_with fail
  refine P.out.mono ?_
  rintro e w1 ⟨rfl, hq1⟩
  obtain ⟨cap, W2, hbs, hb2, hho, hlt2⟩ := bytes_open w1 l
  have Q2 := Lib.hid (HQ.out _ _ hb2 hq1)
  have HO := Lib.hid hho
  clear hho hq1 hb2
  go_wp2_with fail
  clear hbs
  go_loop [5, 13] (fun n i => ∃ j : Nat, j ≤ l.length ∧ i = .int .i64 j ∧ n = .int .i64 (Chp.num (l.take j) : Nat)) (fun _ i => l.length - (intOf i).toNat)
  case atStart => exact ⟨0, by omega, rfl, rfl⟩
  case round =>
    obtain ⟨j, hj, rfl, rfl⟩ := hrel
    by_cases hlt : j < l.length
    · obtain ⟨c0, _⟩ := HO.out j hlt
      have e0 : l.getD j 0 = l[j] := by simp [List.getD, hlt]
      rw [e0] at c0
      have hn := or_low (Chp.num (l.take j)) l[j] (Chp.num_take_small l j hl)
      have HN := Lib.hid (Chp.num_take l j hlt)
      generalize l[j] = b at *
      generalize Chp.num (l.take j) = m at *
      have hlt2 : (j : Int) < (l.length : Int) := by omega
      go_wp2_with fail
      go_round
      case rel => exact ⟨j + 1, by omega, by go_num, by rw [HN.out, Int.natCast_add, Int.natCast_mul]; rfl⟩
      case measure => simp [intOf]; omega
    · obtain rfl : j = l.length := by omega
      rw [List.take_length]
      go_wp2_with fail
      go_ret
      exact ⟨rfl, Q2.out⟩
/-- The contract of number. -/
theorem number_any (f : Chp.Fld) (k : Nat) (B : Nat) (w : World) (h : Fl B w f) (hk : k ≤ 2) :
    Calls Try.prog 17 #[.pointer (some ⟨B, 0, none⟩), .int .i64 k] w fun e w' => e = .returned (.int .i64 (Chp.num (Chp.piece f k).1)) ∧ Fl B w' (Chp.piece f k).2 ∧ w.grownBy w' (some B) :=
  number_walk B k _ w (fun w' => Fl B w' (Chp.piece f k).2 ∧ w.grownBy w' (some B)) (by have := Chp.piece_length f k; omega) (fun _ _ hb hq => ⟨hq.1.below hb, grown_below hq.2 hb⟩) (Lib.hid (piece_any f k B w h))
set_option maxHeartbeats 400000 in
theorem end_walk (B : Nat) (k : Int) (x : ByteArray) (w : World) (Q Q2 : World → Prop)
    (hQ : ∀ a, Q a → (∃ u, a.cell? ⟨B, 0, none⟩ = some (.string u)) ∧ a.frozen? ⟨B, 0, none⟩ = false ∧ Q2 (a.setCell ⟨B, 0, none⟩ (.string x)))
    (P : Hid (Calls Try.prog 21 #[.pointer (some ⟨B, 0, none⟩), .int .i64 k] w fun e w' => e = .returned (.string x) ∧ Q w')) :
    Calls Try.prog 18 #[.pointer (some ⟨B, 0, none⟩), .int .i64 k] w fun e w' => e = .returned (.tuple #[]) ∧ Q2 w' := by
  have HQ := Lib.hid hQ
  clear hQ
  go_enter Try.func18, Try.ntmps18
  go_wp2_with fail
  refine P.out.mono ?_
  rintro e w1 ⟨rfl, hq1⟩
  obtain ⟨⟨u, c0⟩, f0, h2⟩ := HQ.out _ hq1
  have H2 := Lib.hid h2
  clear h2 hq1
  go_wp2_with fail
  go_end0
  exact ⟨rfl, H2.out⟩
/-- The contract of end. -/
theorem end_any (f : Chp.Fld) (k : Int) (B : Nat) (w : World) (h : Fl B w f) :
    Calls Try.prog 18 #[.pointer (some ⟨B, 0, none⟩), .int .i64 k] w fun e w' => e = .returned (.tuple #[]) ∧ Fl B w' ((Chp.piece f k).1, (Chp.piece f k).2.2) ∧ w.grownBy w' (some B) :=
  end_walk B k _ w (fun w' => Fl B w' (Chp.piece f k).2 ∧ w.grownBy w' (some B)) _ (fun _ hq => ⟨⟨_, hq.1.1 0 _ rfl⟩, hq.1.2 0, hq.1.rest _, grown_set hq.2 0 _⟩) (Lib.hid (piece_any f k B w h))
set_option maxHeartbeats 400000 in
theorem text_walk (B : Nat) (k : Int) (x : ByteArray) (w : World) (Q : World → Prop) (hx : x.size ≤ 281474976710656)
    (hQ : ∀ a b, Below a.heap.size a b → Q a → Q b)
    (P : Hid (Calls Try.prog 21 #[.pointer (some ⟨B, 0, none⟩), .int .i64 k] w fun e w' => e = .returned (.string x) ∧ Q w')) :
    Calls Try.prog 19 #[.pointer (some ⟨B, 0, none⟩), .int .i64 k] w fun e w' => e = .returned (.string x) ∧ Q w' := by
  have HQ := Lib.hid hQ
  have K := Lib.hid fun W => clone_any x W hx
  clear hQ hx
  go_enter Try.func19, Try.ntmps19
  go_wp2_with fail
  refine P.out.mono ?_
  rintro e w1 ⟨rfl, hq1⟩
  have Q1 := Lib.hid hq1
  clear hq1
  go_wp2_with fail
  refine (K.out _).mono ?_
  rintro e w2 ⟨rfl, hb2⟩
  have Q2 := Lib.hid (HQ.out _ _ hb2 Q1.out)
  clear hb2
  go_wp2_with fail
  go_ret
  exact ⟨rfl, Q2.out⟩
/-- The contract of text. -/
theorem text_any (f : Chp.Fld) (k : Int) (B : Nat) (w : World) (h : Fl B w f) (hl : f.1.length ≤ 281474976710656) :
    Calls Try.prog 19 #[.pointer (some ⟨B, 0, none⟩), .int .i64 k] w fun e w' => e = .returned (.string ⟨(Chp.piece f k).1.toArray⟩) ∧ Fl B w' (Chp.piece f k).2 ∧ w.grownBy w' (some B) :=
  text_walk B k _ w (fun w' => Fl B w' (Chp.piece f k).2 ∧ w.grownBy w' (some B)) (by rw [sz]; have := (Chp.piece_rest f k).2; omega) (fun _ _ hb hq => ⟨hq.1.below hb, grown_below hq.2 hb⟩) (Lib.hid (piece_any f k B w h))
end Go.Proofs.Ytkdlhonbpciceaa.H
