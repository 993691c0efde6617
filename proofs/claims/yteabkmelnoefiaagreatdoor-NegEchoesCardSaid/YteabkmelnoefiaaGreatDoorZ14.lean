/-
  The program's rules: the magic number, short heads, the discriminator, what has nothing against anything.
-/
import Derived.Test.YteabkmelnoefiaaGreatDoorZ13
import Derived.Deep.RegionWith
import Derived.Deep.RegionHeld
import Derived.Deep.RegionHeld2
import Derived.Deep.DeepCutAuto
import Derived.BigRegion
namespace Go.Proofs.YteabkmelnoefiaaGreatDoor.Pr
open Go.RowKit
def one (B o : Nat) : Value := .agg #[ptr B o]
section
variable {B o : Nat} {w : World}
theorem easy_good (d : List UInt8) : Calls Tryz.prog 152 #[.agg #[], .string ⟨d.toArray⟩] w fun e w' => e = .returned (.bool true) ∧ Below w.heap.size w w' := by
  go_enter Tryz.func152, Tryz.ntmps152
  go_wp2_with fail
  go_ret
  exact ⟨rfl, (Below.refl _ w).alloc (Nat.le_refl _) _⟩
theorem easy_grants : Calls Tryz.prog 153 #[.agg #[]] w fun e w' => e = .returned (.bool true) ∧ Below w.heap.size w w' := by
  go_enter Tryz.func153, Tryz.ntmps153
  go_wp2_with fail
  go_ret
  exact ⟨rfl, (Below.refl _ w).alloc (Nat.le_refl _) _⟩
theorem easy_wish (d : List UInt8) : Calls Tryz.prog 154 #[.agg #[], .string ⟨d.toArray⟩] w fun e w' => e = .returned (.string ⟨d.toArray⟩) ∧ Below w.heap.size w w' := by
  go_enter Tryz.func154, Tryz.ntmps154
  go_wp2_with fail
  go_ret
  exact ⟨rfl, (Below.refl _ w).alloc (Nat.le_refl _) _⟩
theorem short_may : Calls Tryz.prog 174 #[one B o] w fun e w' => e = .returned (.bool true) ∧ Below w.heap.size w w' := by
  unfold one
  go_enter Tryz.func174, Tryz.ntmps174
  go_wp2_with fail
  go_ret
  exact ⟨rfl, (Below.refl _ w).alloc (Nat.le_refl _) _⟩
theorem short_asks (x : Bool) (c : w.cell? ⟨B, o, none⟩ = some (.bool x)) : Calls Tryz.prog 169 #[one B o] w fun e w' => e = .returned (.bool x) ∧ Below w.heap.size w w' := by
  have hl := block_lt_of_cell c
  unfold one
  go_enter Tryz.func169, Tryz.ntmps169
  go_wp2_with fail
  go_ret
  exact ⟨rfl, (Below.refl _ w).alloc (Nat.le_refl _) _⟩
theorem short_grants (x : Bool) (c : w.cell? ⟨B, o, none⟩ = some (.bool x)) : Calls Tryz.prog 173 #[one B o] w fun e w' => e = .returned (.bool x) ∧ Below w.heap.size w w' := by
  have hl := block_lt_of_cell c
  unfold one
  go_enter Tryz.func173, Tryz.ntmps173
  go_wp2_with fail
  go_ret
  exact ⟨rfl, (Below.refl _ w).alloc (Nat.le_refl _) _⟩
theorem short_data : Calls Tryz.prog 170 #[one B o] w fun e w' => e = .returned (.string ⟨#[]⟩) ∧ Below w.heap.size w w' := by
  unfold one
  go_enter Tryz.func170, Tryz.ntmps170
  go_wp2_with fail
  go_ret
  exact ⟨rfl, (Below.refl _ w).alloc (Nat.le_refl _) _⟩
theorem short_drop (x : Bool) (c : w.cell? ⟨B, o, none⟩ = some (.bool x)) (fz : w.frozen? ⟨B, o, none⟩ = false) : Calls Tryz.prog 171 #[one B o] w fun e w' => e = .returned (.tuple #[]) ∧ Wrote B o (.bool false) w w' := by
  have hl := block_lt_of_cell c
  unfold one
  go_enter Tryz.func171, Tryz.ntmps171
  go_wp2_with fail
  go_end0
  exact ⟨rfl, wrote_alloc _⟩
theorem short_take (x : Bool) (d : List UInt8) (c : w.cell? ⟨B, o, none⟩ = some (.bool x)) (fz : w.frozen? ⟨B, o, none⟩ = false) : Calls Tryz.prog 175 #[one B o, .string ⟨d.toArray⟩] w fun e w' => e = .returned (.tuple #[]) ∧ Wrote B o (.bool true) w w' := by
  have hl := block_lt_of_cell c
  unfold one
  go_enter Tryz.func175, Tryz.ntmps175
  go_wp2_with fail
  go_end0
  exact ⟨rfl, wrote_alloc _⟩
theorem short_fits (d : List UInt8) : Calls Tryz.prog 172 #[one B o, .string ⟨d.toArray⟩] w fun e w' => e = .returned (.bool d.isEmpty) ∧ Below w.heap.size w w' := by
  unfold one
  go_enter Tryz.func172, Tryz.ntmps172
  go_wp2_with fail
  go_ret
  exact ⟨rfl, (Below.refl _ w).alloc (Nat.le_refl _) _⟩
theorem disc_asks (t : List UInt8) (c : w.cell? ⟨B, o, none⟩ = some (.string ⟨t.toArray⟩)) : Calls Tryz.prog 176 #[one B o] w fun e w' => e = .returned (.bool (!t.isEmpty)) ∧ Below w.heap.size w w' := by
  have hl := block_lt_of_cell c
  unfold one
  go_enter Tryz.func176, Tryz.ntmps176
  go_wp2_with fail
  go_ret
  exact ⟨rfl, (Below.refl _ w).alloc (Nat.le_refl _) _⟩
theorem disc_data (t : List UInt8) (ht : t.length ≤ 140737488355328) (c : w.cell? ⟨B, o, none⟩ = some (.string ⟨t.toArray⟩)) : Calls Tryz.prog 177 #[one B o] w fun e w' => e = .returned (.string ⟨t.toArray⟩) ∧ Below w.heap.size w w' := by
  have hl := block_lt_of_cell c
  have CA := Lib.hid fun W => clone_any ⟨t.toArray⟩ W (by rw [sz]; omega)
  unfold one
  go_enter Tryz.func177, Tryz.ntmps177
  go_wp2_with (go_at_call 50; refine (CA.out _).mono ?_; rintro e v1 ⟨rfl, hb⟩)
  go_ret
  exact ⟨rfl, bel2 ((Below.refl _ w).alloc (Nat.le_refl _) _) hb⟩
theorem disc_drop (t : List UInt8) (c : w.cell? ⟨B, o, none⟩ = some (.string ⟨t.toArray⟩)) (fz : w.frozen? ⟨B, o, none⟩ = false) : Calls Tryz.prog 178 #[one B o] w fun e w' => e = .returned (.tuple #[]) ∧ Wrote B o (.string ⟨#[]⟩) w w' := by
  have hl := block_lt_of_cell c
  unfold one
  go_enter Tryz.func178, Tryz.ntmps178
  go_wp2_with fail
  go_end0
  exact ⟨rfl, wrote_alloc _⟩
theorem disc_may (t : List UInt8) (c : w.cell? ⟨B, o, none⟩ = some (.string ⟨t.toArray⟩)) : Calls Tryz.prog 180 #[one B o] w fun e w' => e = .returned (.bool (decide (t.length ≤ 20))) ∧ Below w.heap.size w w' := by
  have hl := block_lt_of_cell c
  unfold one
  go_enter Tryz.func180, Tryz.ntmps180
  go_wp2_with fail
  go_ret
  exact ⟨ret_bool (by rw [Bool.eq_iff_iff]; simp only [decide_eq_true_eq]; omega), (Below.refl _ w).alloc (Nat.le_refl _) _⟩
theorem disc_fits (d : List UInt8) : Calls Tryz.prog 179 #[one B o, .string ⟨d.toArray⟩] w fun e w' => e = .returned (.bool (!d.isEmpty && decide (d.length ≤ 20))) ∧ Below w.heap.size w w' := by
  unfold one
  cases h : (!d.isEmpty)
  all_goals
    go_enter Tryz.func179, Tryz.ntmps179
    go_wp2_with fail
    go_ret
    exact ⟨ret_bool (by first | rfl | (rw [Bool.eq_iff_iff]; simp only [Bool.true_and, decide_eq_true_eq]; omega)), (Below.refl _ w).alloc (Nat.le_refl _) _⟩
theorem disc_take (t : List UInt8) (d : List UInt8) (hd : d.length ≤ 140737488355328) (c : w.cell? ⟨B, o, none⟩ = some (.string ⟨t.toArray⟩)) (fz : w.frozen? ⟨B, o, none⟩ = false) : Calls Tryz.prog 181 #[one B o, .string ⟨d.toArray⟩] w fun e w' => e = .returned (.tuple #[]) ∧ Wrote B o (.string ⟨d.toArray⟩) w w' := by
  have hl := block_lt_of_cell c
  have CA := Lib.hid fun W => clone_any ⟨d.toArray⟩ W (by rw [sz]; omega)
  unfold one
  have F : Hid (∀ v1, Below (w.alloc (.cells #[ptr B o] 138)).heap.size (w.alloc (.cells #[ptr B o] 138)) v1 → v1.cell? ⟨w.heap.size, 0, none⟩ = some (ptr B o) ∧ v1.cell? ⟨B, o, none⟩ = some (.string ⟨t.toArray⟩) ∧ v1.frozen? ⟨B, o, none⟩ = false ∧ w.heap.size < v1.heap.size ∧ B < v1.heap.size ∧ Below w.heap.size w v1) := Lib.hid fun v1 hb => by
    have hq := bel2 ((Below.refl _ w).alloc (Nat.le_refl _) (.cells #[ptr B o] 138)) hb
    have h1 := (Box.new w [ptr B o] 138).below hb
    exact ⟨h1 0 _ rfl, ((bcell hq).1 B o hl).trans c, ((bcell hq).2 B o hl).trans fz, h1.lt, Nat.lt_of_lt_of_le hl hq.size, hq⟩
  go_enter Tryz.func181, Tryz.ntmps181
  go_wp2_with fail
  go_region_with (go_at_call 50; (refine (CA.out _).mono ?_); rintro e v1 ⟨rfl, hb⟩; obtain ⟨m0, m1, m2, m3, m4, m5⟩ := F.out v1 ⟨hb.os, hb.tape, hb.output, hb.size, hb.block⟩)
  all_goals
    go_end0
    first | exact ⟨rfl, wrote_set m5⟩ | exact ⟨rfl, wrote_drew (wrote_set m5)⟩
theorem u32_turn (m : Int) (h0 : 0 ≤ m) (h1 : m ≤ 4294967295) : 0 ≤ Pol.turn m ∧ Pol.turn m ≤ 4294967295 := by
  unfold Pol.turn
  split <;> omega
theorem xor_turn (m : Int) (h0 : 0 ≤ m) (h1 : m ≤ 4294967295) : bits .xor .u32 (if IntKind.u32.signed = true then -1 else IntKind.u32.max) (IntKind.u32.wrap m) = 4294967295 - m := by
  obtain ⟨n, rfl⟩ : ∃ n : Nat, m = (n : Int) := ⟨m.toNat, by omega⟩
  have e1 : IntKind.u32.wrap (n : Int) = (n : Int) := by
    show (n : Int) % 4294967296 = n
    omega
  rw [e1]
  have e2 : BitVec.ofInt 32 (4294967295 : Int) = BitVec.allOnes 32 := by decide
  show IntKind.u32.wrap ((BitVec.ofInt 32 (4294967295 : Int) ^^^ BitVec.ofInt 32 (n : Int)).toNat : Int) = _
  rw [e2, BitVec.allOnes_xor, BitVec.toNat_not]
  have e3 : (BitVec.ofInt 32 (n : Int)).toNat = n := by
    rw [BitVec.toNat_ofInt]
    omega
  rw [e3]
  show ((2 ^ 32 - 1 - n : Nat) : Int) % 4294967296 = _
  omega
theorem turn_max (m : Int) (h0 : 0 ≤ m) (h1 : m ≤ 4294967295) : IntKind.i64.wrap (max (bits .xor .u32 (if IntKind.u32.signed = true then -1 else IntKind.u32.max) (IntKind.u32.wrap m)) 1) = ((Pol.turn m).toNat : Int) := by
  have ht := u32_turn m h0 h1
  rw [xor_turn m h0 h1]
  have e : max (4294967295 - m) 1 = Pol.turn m := by
    unfold Pol.turn
    split <;> omega
  rw [e]
  obtain ⟨n, hn⟩ : ∃ n : Nat, Pol.turn m = (n : Int) := ⟨(Pol.turn m).toNat, by omega⟩
  rw [hn, i64_wrap n (by omega)]
  omega
set_option maxHeartbeats 1600000 in
set_option maxRecDepth 100000 in
theorem magic_wish (m : Int) (d : List UInt8) (hd : d.length ≤ 140737488355328) (h0 : 0 ≤ m) (h1 : m ≤ 4294967295) (c : w.cell? ⟨B, o, none⟩ = some (.int .i64 m)) :
    Calls Tryz.prog 168 #[num B o 4, .string ⟨d.toArray⟩] w fun e w' => e = .returned (.string ⟨(if nm d = 0 ∨ nm d = m then Pol.be 4 (Pol.turn m).toNat else d).toArray⟩) ∧ Below w.heap.size w w' := by
  have hl := block_lt_of_cell c
  have GA := Lib.hid fun W => magic_good (B := B) (o := o) (w := W) 4 d hd
  have VA := Lib.hid fun W => value_any d W hd
  have TA := Lib.hid fun W => text_any (ptr B o) (Pol.turn m).toNat 4 W (by omega)
  have EX := Lib.hid (turn_max m h0 h1)
  unfold num at GA ⊢
  obtain ⟨w0, hw0⟩ : ∃ w0, w0 = w.alloc (.cells #[ptr B o, .int .i64 4] 132) := ⟨_, rfl⟩
  have HB := Lib.hid (hw0 ▸ (Below.refl _ w).alloc (Nat.le_refl _) (.cells #[ptr B o, .int .i64 4] 132) : Below w.heap.size w w0)
  have SB : Hid (∀ a : World, Below w0.heap.size w0 a → a.cell? ⟨w.heap.size, 0, none⟩ = some (ptr B o) ∧ a.cell? ⟨w.heap.size, 1, none⟩ = some (.int .i64 4) ∧ a.cell? ⟨B, o, none⟩ = some (.int .i64 m) ∧ Below w0.heap.size w0 a) := Lib.hid fun a hb => by
    have hq := bel2 HB.out hb
    have h1 := (hw0 ▸ Box.new w [ptr B o, .int .i64 4] 132 : Box w.heap.size w0 [ptr B o, .int .i64 4]).below hb
    exact ⟨h1 0 _ rfl, h1 1 _ rfl, ((bcell hq).1 B o hl).trans c, hb⟩
  have BS : Hid (∀ a : World, (a.cell? ⟨w.heap.size, 0, none⟩ = some (ptr B o) ∧ a.cell? ⟨w.heap.size, 1, none⟩ = some (.int .i64 4) ∧ a.cell? ⟨B, o, none⟩ = some (.int .i64 m) ∧ Below w0.heap.size w0 a) → Below w0.heap.size w0 a) := Lib.hid fun a h => h.2.2.2
  obtain ⟨g, hg⟩ : ∃ g, g = (nm d != 0 && nm d != m) := ⟨_, rfl⟩
  have HG := Lib.hid hg
  go_enter Tryz.func168, Tryz.ntmps168
  go_wp2_with fail
  rw [← hw0]
  clear hw0
  go_cut [17] (fun t wx => t = .bool g ∧ wx.cell? ⟨w.heap.size, 0, none⟩ = some (ptr B o) ∧ wx.cell? ⟨w.heap.size, 1, none⟩ = some (.int .i64 4) ∧ wx.cell? ⟨B, o, none⟩ = some (.int .i64 m) ∧ Below w0.heap.size w0 wx)
  case first =>
    clear TA
    cases q : (nm d != 0)
    · rw [q] at GA
      have e1 : g = false := by rw [HG.out, q]; rfl
      subst e1
      clear HG hg
      obtain ⟨k0, k1, k2, k3⟩ := SB.out _ (Below.refl _ w0)
      first | (go_region_with (first | (go_at_call 167; (refine (GA.out _).mono ?_); rintro e w4 ⟨rfl, hb4⟩; obtain ⟨m0, m1, m2, m3⟩ := SB.out w4 ⟨hb4.os, hb4.tape, hb4.output, hb4.size, hb4.block⟩))) | fail
      all_goals
        go_wp2_with fail
        go_meet
        first | exact ⟨rfl, SB.out _ m3⟩ | exact ⟨rfl, SB.out _ m3.drew⟩
    · rw [q] at GA
      cases q2 : (nm d != m)
      all_goals
        rw [q, q2] at hg
        simp only [Bool.true_and] at hg
        subst hg
        clear HG
        go_region_held (fun a => a.cell? ⟨w.heap.size, 0, none⟩ = some (ptr B o) ∧ a.cell? ⟨w.heap.size, 1, none⟩ = some (.int .i64 4) ∧ a.cell? ⟨B, o, none⟩ = some (.int .i64 m) ∧ Below w0.heap.size w0 a) (first | assumption | exact SB.out _ (Below.refl _ _) | exact SB.out _ (Below.refl _ w0).drew | exact SB.out _ (bel2 (BS.out _ (by assumption)) hb4)) (first | (go_at_call 167; (refine (GA.out _).mono ?_); rintro e w4 ⟨rfl, hb4⟩) | (go_at_call 162; (refine (VA.out _).mono ?_); rintro e w5 ⟨rfl, rfl⟩))
        rename_i hH
        go_wp2_with fail
        go_meet
        exact ⟨rfl, hH⟩
  case rest =>
    obtain ⟨rfl, k0, k1, k2, k3⟩ := hcut
    have HC := Lib.hid k3
    clear k3 VA GA
    cases hq : g
    · have e2 : Hid (nm d = 0 ∨ nm d = m) := Lib.hid (by
        rw [hq] at hg
        by_cases e : nm d = 0
        · exact .inl e
        · refine .inr ?_
          rw [show (nm d != 0) = true from bne_iff_ne.2 e, Bool.true_and] at hg
          simpa using hg.symm)
      clear hg HG hq
      go_wp2_with fail
      go_region_held (fun a => a.cell? ⟨w.heap.size, 0, none⟩ = some (ptr B o) ∧ a.cell? ⟨w.heap.size, 1, none⟩ = some (.int .i64 4) ∧ a.cell? ⟨B, o, none⟩ = some (.int .i64 m) ∧ Below w0.heap.size w0 a) (first | assumption | exact SB.out _ HC.out.drew | exact SB.out _ (bel2 (BS.out _ (by assumption)) hb4)) (first | (go_at_call 161; rw [EX.out]; (refine (TA.out _).mono ?_); rintro e w4 ⟨rfl, hb4⟩))
      rename_i hH
      go_wp2_with fail
      go_ret
      exact ⟨by first | rfl | (rw [if_pos e2.out]; rfl), bel2 HB.out hH.2.2.2⟩
    · have e2 : Hid (¬ (nm d = 0 ∨ nm d = m)) := Lib.hid (by
        rw [hq] at hg
        intro e
        rcases e with e | e
        · rw [e] at hg; simp at hg
        · rw [e] at hg; simp at hg)
      clear hg HG hq
      go_wp2_with fail
      go_ret
      exact ⟨by first | rfl | (rw [if_neg e2.out]; rfl), bel2 HB.out HC.out⟩
end
end Go.Proofs.YteabkmelnoefiaaGreatDoor.Pr
