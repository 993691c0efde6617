/-
  The program's rules: what each method does.
-/
import Derived.Test.YteabkmelnoefiaaGreatDoorZ12
import Derived.Test.YteabkmelnoefiaaGreatDoorZ05
namespace Go.Proofs.YteabkmelnoefiaaGreatDoor.Pr
open Go.RowKit
/-- One cell of block B has been written, nothing else that was there. -/
def Wrote (B o : Nat) (u : Value) (w w' : World) : Prop := (∀ cs, Arr B w cs → Arr B w' (cs.set o u)) ∧ w.grownBy w' (some B)
theorem wrote_set {B o : Nat} {u : Value} {w w1 : World} (hb : Below w.heap.size w w1) : Wrote B o u w (w1.setCell ⟨B, o, none⟩ u) :=
  ⟨fun _ h => (h.below hb).set o u, ⟨hb.os, hb.tape, hb.output, by have := hb.size; simpa using this, fun k hk hne => (Below.heap_setCell w1 ⟨B, o, none⟩ u k (fun e => hne (by simp [e]))).trans (hb.block k hk)⟩⟩
theorem wrote_drew {B o : Nat} {u : Value} {w w1 : World} (h : Wrote B o u w w1) : Wrote B o u w w1.drew := ⟨h.1, ⟨h.2.os, h.2.tape, h.2.output, h.2.size, h.2.block⟩⟩
theorem wrote_below {B o : Nat} {u : Value} {w w1 w2 : World} (h : Wrote B o u w w1) (k : Below w1.heap.size w1 w2) : Wrote B o u w w2 :=
  ⟨fun cs hc => (h.1 cs hc).below k, ⟨k.os.trans h.2.os, k.tape.trans h.2.tape, k.output.trans h.2.output, Nat.le_trans h.2.size k.size, fun i hi hne => (k.block i (Nat.lt_of_lt_of_le hi h.2.size)).trans (h.2.block i hi hne)⟩⟩
theorem wrote_alloc {B x : Nat} {u : Value} {w : World} (o : Obj) : Wrote B x u w ((w.setCell ⟨B, x, none⟩ u).alloc o) := wrote_below (wrote_set (Below.refl _ w)) ((Below.refl _ _).alloc (Nat.le_refl _) o)
theorem shr_zero (x : Int) (j : Nat) : (x / 2 ^ (8 * j) == 0) = (decide (0 ≤ x) && decide (x < ((256 ^ j : Nat) : Int))) := by
  have e : ((2 : Int) ^ (8 * j)) = ((256 ^ j : Nat) : Int) := by
    have h : (2 : Nat) ^ (8 * j) = 256 ^ j := by rw [Nat.pow_mul]
    rw [← h]; simp
  have hp : (0 : Int) < ((256 ^ j : Nat) : Int) := by have := Nat.pow_pos (n := j) (show 0 < 256 by omega); omega
  rw [e, Bool.eq_iff_iff]
  generalize ((256 ^ j : Nat) : Int) = m at *
  simp only [beq_iff_eq, Bool.and_eq_true, decide_eq_true_eq]
  constructor
  · intro h
    have h1 := Int.emod_nonneg x (show m ≠ 0 by omega)
    have h2 := Int.emod_lt_of_pos x hp
    have h3 := Int.mul_ediv_add_emod x m
    rw [h, Int.mul_zero] at h3
    omega
  · intro h
    exact Int.ediv_eq_zero_of_lt h.1 h.2
def num (B o j : Nat) : Value := .agg #[ptr B o, .int .i64 (j : Int)]
section
variable {B o : Nat} {w : World}
theorem num_asks (j : Nat) (x : Int) (c : w.cell? ⟨B, o, none⟩ = some (.int .i64 x)) : Calls Tryz.prog 155 #[num B o j] w fun e w' => e = .returned (.bool (x != 0)) ∧ Below w.heap.size w w' := by
  have hl := block_lt_of_cell c
  unfold num
  go_enter Tryz.func155, Tryz.ntmps155
  go_wp2_with fail
  go_ret
  exact ⟨rfl, (Below.refl _ w).alloc (Nat.le_refl _) _⟩
theorem num_drop (j : Nat) (x : Int) (c : w.cell? ⟨B, o, none⟩ = some (.int .i64 x)) (fz : w.frozen? ⟨B, o, none⟩ = false) : Calls Tryz.prog 157 #[num B o j] w fun e w' => e = .returned (.tuple #[]) ∧ Wrote B o (.int .i64 0) w w' := by
  have hl := block_lt_of_cell c
  unfold num
  go_enter Tryz.func157, Tryz.ntmps157
  go_wp2_with fail
  go_end0
  exact ⟨rfl, wrote_alloc _⟩
theorem num_fits (j : Nat) (d : List UInt8) : Calls Tryz.prog 158 #[num B o j, .string ⟨d.toArray⟩] w fun e w' => e = .returned (.bool (d.length == j)) ∧ Below w.heap.size w w' := by
  unfold num
  go_enter Tryz.func158, Tryz.ntmps158
  go_wp2_with fail
  go_ret
  exact ⟨ret_bool (by rw [Bool.eq_iff_iff]; simp only [beq_iff_eq]; omega), (Below.refl _ w).alloc (Nat.le_refl _) _⟩
theorem num_take (j : Nat) (x : Int) (d : List UInt8) (hd : d.length ≤ 140737488355328) (c : w.cell? ⟨B, o, none⟩ = some (.int .i64 x)) (fz : w.frozen? ⟨B, o, none⟩ = false) : Calls Tryz.prog 160 #[num B o j, .string ⟨d.toArray⟩] w fun e w' => e = .returned (.tuple #[]) ∧ Wrote B o (.int .i64 (nm d)) w w' := by
  have hl := block_lt_of_cell c
  have VA := Lib.hid fun W => value_any d W hd
  unfold num
  go_enter Tryz.func160, Tryz.ntmps160
  go_wp2_with fail
  go_region_with (go_at_call 162; refine (VA.out _).mono ?_; rintro e v1 ⟨rfl, rfl⟩)
  all_goals
    go_end0
    exact ⟨rfl, wrote_drew (wrote_alloc _)⟩
theorem num_data (j n : Nat) (hj : j ≤ 7) (c : w.cell? ⟨B, o, none⟩ = some (.int .i64 (n : Int))) : Calls Tryz.prog 156 #[num B o j] w fun e w' => e = .returned (.string ⟨(Pol.be j n).toArray⟩) ∧ Below w.heap.size w w' := by
  have hl := block_lt_of_cell c
  have TA := Lib.hid fun W => text_any (ptr B o) n j W hj
  unfold num
  go_enter Tryz.func156, Tryz.ntmps156
  go_wp2_with fail
  go_region_with (go_at_call 161; refine (TA.out _).mono ?_; rintro e v1 ⟨rfl, hb⟩)
  all_goals
    go_wp2_with fail
    go_ret
    first | exact ⟨rfl, bel2 ((Below.refl _ w).alloc (Nat.le_refl _) _) hb⟩ | exact ⟨rfl, (bel2 ((Below.refl _ w).alloc (Nat.le_refl _) _) hb).drew⟩ | exact ⟨rfl, bel2 ((Below.refl _ w).alloc (Nat.le_refl _) _).drew hb⟩ | exact ⟨rfl, (bel2 ((Below.refl _ w).alloc (Nat.le_refl _) _).drew hb).drew⟩
theorem num_may (j : Nat) (x : Int) (hj : j ≤ 7) (c : w.cell? ⟨B, o, none⟩ = some (.int .i64 x)) : Calls Tryz.prog 159 #[num B o j] w fun e w' => e = .returned (.bool (decide (0 ≤ x) && decide (x < ((256 ^ j : Nat) : Int)))) ∧ Below w.heap.size w w' := by
  have hl := block_lt_of_cell c
  unfold num
  go_enter Tryz.func159, Tryz.ntmps159
  go_wp2_with fail
  go_quiet (fail)
  go_wp2_with fail
  go_ret
  exact ⟨ret_bool (shr_zero x j), ((below_drewN ((Below.refl _ w).alloc (Nat.le_refl _) _) nq))⟩
/-- The rule of a number that is how much a side takes at one time. -/
theorem unit_may (j : Nat) (x : Int) (c : w.cell? ⟨B, o, none⟩ = some (.int .i64 x)) : Calls Tryz.prog 164 #[num B o j] w fun e w' => e = .returned (.bool (Pol.size x)) ∧ Below w.heap.size w w' := by
  have hl := block_lt_of_cell c
  have IU := Lib.hid fun W => is_unit x W
  have HS : Hid (Pol.size x = (x == 0 || Pol.unit x)) := Lib.hid rfl
  unfold num
  cases h : (x == 0)
  all_goals
    rw [h] at HS
    go_enter Tryz.func164, Tryz.ntmps164
    go_wp2_with (go_at_call 166; refine (IU.out _).mono ?_; rintro e v1 ⟨rfl, rfl⟩)
    go_ret
    exact ⟨ret_bool (by rw [HS.out]; rfl), (Below.refl _ w).alloc (Nat.le_refl _) _⟩
theorem unit_good (j : Nat) (d : List UInt8) (hd : d.length ≤ 140737488355328) : Calls Tryz.prog 163 #[num B o j, .string ⟨d.toArray⟩] w fun e w' => e = .returned (.bool (Pol.unit (nm d))) ∧ Below w.heap.size w w' := by
  have VA := Lib.hid fun W => value_any d W hd
  have IU := Lib.hid fun W => is_unit (nm d) W
  unfold num
  go_enter Tryz.func163, Tryz.ntmps163
  go_wp2_with (first | (go_at_call 162; (refine (VA.out _).mono ?_); rintro e v1 ⟨rfl, rfl⟩) | (go_at_call 166; refine (IU.out _).mono ?_; rintro e v1 ⟨rfl, rfl⟩))
  go_ret
  exact ⟨rfl, (Below.refl _ w).alloc (Nat.le_refl _) _⟩
theorem unit_wish (d : List UInt8) (hd : d.length ≤ 140737488355328) : Calls Tryz.prog 165 #[num B o 2, .string ⟨d.toArray⟩] w fun e w' => e = .returned (.string ⟨(if Pol.unit (nm d) then d else Pol.be 2 1500).toArray⟩) ∧ Below w.heap.size w w' := by
  have GA := Lib.hid fun W => unit_good (B := B) (o := o) (w := W) 2 d hd
  have TA := Lib.hid fun W => text_any (ptr B o) 1500 2 W (by omega)
  unfold num at GA ⊢
  cases h : Pol.unit (nm d)
  all_goals
    rw [h] at GA
    go_enter Tryz.func165, Tryz.ntmps165
    go_wp2_with (first | (go_at_call 163; (refine (GA.out _).mono ?_); rintro e v1 ⟨rfl, hb1⟩; have HB1 := Lib.hid (bel2 ((Below.refl _ w).alloc (Nat.le_refl _) _) hb1); have m0 : v1.cell? ⟨w.heap.size, 0, none⟩ = some (ptr B o) := (Box.new w [ptr B o, .int .i64 2] 131).below hb1 0 _ rfl; have m1 : v1.cell? ⟨w.heap.size, 1, none⟩ = some (.int .i64 2) := (Box.new w [ptr B o, .int .i64 2] 131).below hb1 1 _ rfl; clear hb1) | (go_at_call 161; refine (TA.out _).mono ?_; rintro e v2 ⟨rfl, hb2⟩))
    go_ret
    first | exact ⟨rfl, HB1.out⟩ | exact ⟨rfl, bel2 HB1.out hb2⟩
theorem magic_good (j : Nat) (d : List UInt8) (hd : d.length ≤ 140737488355328) : Calls Tryz.prog 167 #[num B o j, .string ⟨d.toArray⟩] w fun e w' => e = .returned (.bool (nm d != 0)) ∧ Below w.heap.size w w' := by
  have VA := Lib.hid fun W => value_any d W hd
  unfold num
  go_enter Tryz.func167, Tryz.ntmps167
  go_wp2_with (go_at_call 162; (refine (VA.out _).mono ?_); rintro e v1 ⟨rfl, rfl⟩)
  go_ret
  exact ⟨rfl, (Below.refl _ w).alloc (Nat.le_refl _) _⟩
end
end Go.Proofs.YteabkmelnoefiaaGreatDoor.Pr
