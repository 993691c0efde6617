/-
  The walk of the law of how long a name may be.
-/
import Derived.Test.YtkdlhonbpciceaaH9
import Derived.Test.YtkdlhonbpciceaaMasks
import Derived.Deep.DeepCutAuto
namespace Go.Proofs.Ytkdlhonbpciceaa.H
open Go.RowKit
set_option maxRecDepth 100000 in
set_option maxHeartbeats 3200000 in
theorem names_walk (zm z E : Int) (x y k : Nat) (A T : ByteArray) (v V : List UInt8) (w : World) (hx : wrap64 ((IntKind.u64.wrap z).tmod 4) = (x : Int)) (hx4 : x < 4) (hy : bits BinOp.and IntKind.i64 zm 7 = (y : Int)) (hy8 : y < 8) (hV : (V.length : Int) = 249 + (y : Int))
    (M1 : ∀ W : World, (Instr.makeSlice 37 (.int .i64 (249 + (y : Int))) (.int .i64 (249 + (y : Int)))).run Try.prog W = .ok (.slice (some ⟨W.heap.size, 0, none⟩) k k) (W.alloc (.cells (Lib.byteCells V).toArray 5)))
    (M2 : ∀ W : World, (convert 37 9 (.slice (some ⟨W.heap.size, 0, none⟩) k k)).run Try.prog (W.alloc (.cells (Lib.byteCells V).toArray 5)) = .ok (.string ⟨V.toArray⟩) (W.alloc (.cells (Lib.byteCells V).toArray 5)))
    (HV : Hid (x < 2 ∧ v = [118] ∨ 2 ≤ x ∧ v = []))
    (AW : Hid (∀ W, Calls Try.prog 13 #[] W fun e w' => e = .returned (.bool true) ∧ Below W.heap.size W w'))
    (PUT : Hid (∀ W, Calls Try.prog 8 #[.agg #[.int .i64 (1 + (x : Int)), .int .i64 2, .string ⟨v.toArray⟩, .string ⟨V.toArray⟩]] W fun e w' => e = .returned (.tuple #[.string A, .int .i64 E]) ∧ Below W.heap.size W w'))
    (PUT2 : Hid (∀ W, Calls Try.prog 8 #[.agg #[.int .i64 (1 + (x : Int)), .int .i64 2, .string ⟨v.toArray⟩, .string ⟨#[]⟩]] W fun e w' => e = .returned (.tuple #[.string T, .int .i64 0]) ∧ Below W.heap.size W w'))
    (GET2 : Hid (∀ W, Calls Try.prog 10 #[.string T] W (MsgPost ((1 + (x : Int), 2, v, []), 0) W)))
    (BAD : Hid (4 < y → A = ⟨#[]⟩ ∧ E = 601))
    (GOOD : Hid (y ≤ 4 → E = 0 ∧ ∀ W, Calls Try.prog 10 #[.string A] W (MsgPost ((1 + (x : Int), 2, v, V), 0) W))) :
    Calls Try.prog 7 #[.int .i64 zm, .int .i64 z] w fun e w' => e = .returned (.bool true) ∧ Below w.heap.size w w' := by
  go_enter Try.func7, Try.ntmps7
  go_wp2_with fail
  refine (AW.out _).mono ?_
  rintro e w1 ⟨rfl, hb1⟩
  have B1 := Lib.hid hb1
  clear hb1
  go_upto_if 27 with (fail)
  go_cut [7] (fun t wx => t = .string ⟨v.toArray⟩ ∧ w1 = wx)
  case first =>
    clear PUT PUT2 GET2 BAD GOOD M1 M2
    rcases HV.out with ⟨h1, h2⟩ | ⟨h1, h2⟩
    · have j1 : 1 + (x : Int) ≤ 2 := by omega
      subst h2
      clear HV
      go_wp2_with fail
      go_meet
      case rel => exact ⟨rfl, rfl⟩
    · have j1 : 2 < 1 + (x : Int) := by omega
      subst h2
      clear HV
      go_wp2_with fail
      go_meet
      case rel => exact ⟨rfl, rfl⟩
  case rest =>
    obtain ⟨rfl, rfl⟩ := hcut
    clear HV
    go_wp2_with fail
    refine (PUT.out _).mono ?_
    rintro e w3 ⟨rfl, hb3⟩
    have B3 := Lib.hid (bel2 (bel2 B1.out ((Below.refl w1.heap.size w1).alloc (Nat.le_refl _) (.cells (Lib.byteCells V).toArray 5))) hb3)
    clear hb3
    go_wp2_with fail
    refine (PUT2.out _).mono ?_
    rintro e w4 ⟨rfl, hb4⟩
    have B4 := Lib.hid (bel2 B3.out hb4)
    clear hb4
    go_wp2_with fail
    refine (GET2.out _).mono ?_
    rintro e w5 ⟨rfl, hb5⟩
    have Y5 := Lib.hid (Box.new w5 [.int .i64 (1 + (x : Int)), .int .i64 2, .string ⟨v.toArray⟩, .string ⟨#[]⟩] 23)
    have B5 := Lib.hid (bel2 (bel2 B4.out hb5) ((Below.refl w5.heap.size w5).alloc (Nat.le_refl _) (.cells #[.int .i64 (1 + (x : Int)), .int .i64 2, .string ⟨v.toArray⟩, .string ⟨#[]⟩] 23)))
    clear hb5
    by_cases h1 : 4 < y
    · obtain ⟨rfl, rfl⟩ := BAD.out h1
      have j1 : 253 < 249 + (y : Int) := by omega
      clear PUT PUT2 GET2 BAD GOOD M1 M2
      go_wp2_with (go_at_call 12; refine (num_any _ _).mono ?_; rintro e w9 ⟨rfl, rfl⟩)
      go_ret
      exact ⟨rfl, B5.out⟩
    · obtain ⟨rfl, hg⟩ := GOOD.out (by omega)
      have G := Lib.hid hg
      have j1 : 249 + (y : Int) ≤ 253 := by omega
      clear PUT PUT2 GET2 BAD GOOD M1 M2 hg
      go_wp2_with fail
      refine (G.out _).mono ?_
      rintro e w6 ⟨rfl, hb6⟩
      have Y6 := Y5.out.below hb6
      have B6 := Lib.hid (bel2 (bel2 B5.out hb6) ((Below.refl w6.heap.size w6).alloc (Nat.le_refl _) (.cells #[.int .i64 (1 + (x : Int)), .int .i64 2, .string ⟨v.toArray⟩, .string ⟨V.toArray⟩] 23)))
      have m2 := Y6 2 _ rfl
      have m3 := Y6 3 _ rfl
      have hz := Y6.lt
      clear hb6 Y6
      go_wp2_with (go_at_call 12; refine (num_any _ _).mono ?_; rintro e w9 ⟨rfl, rfl⟩)
      go_ret
      exact ⟨rfl, B6.out⟩
theorem walk_names (zm z : Int) (w : World) (_ : (Lit.int .i64 zm).wf = true) (_ : (Lit.int .i64 z).wf = true) :
    Calls Try.prog 7 #[.int .i64 zm, .int .i64 z] w fun e w' => e = .returned (.bool true) ∧ Below w.heap.size w w' := by
  obtain ⟨x, hx, hx4⟩ := by_four z
  obtain ⟨y, hy, hy8⟩ := low_bits zm 3 (by decide)
  have hz := zeros_length (249 + y)
  have hval : ∀ c : Nat, c < 4 → Chp.kind (1 + (c : Int)) = true ∧ Chp.byte 2 = true ∧ Chp.val (1 + (c : Int)) = decide (c < 2) := by decide
  obtain ⟨v1, v2, v3⟩ := hval x hx4
  have M1 := fun W => make_bytes (249 + y) (by omega) W
  rw [show ((249 + y : Nat) : Int) = 249 + (y : Int) by omega] at M1
  obtain ⟨v, hv⟩ : ∃ v : List UInt8, x < 2 ∧ v = [118] ∨ 2 ≤ x ∧ v = [] := by
    by_cases h : x < 2
    · exact ⟨_, .inl ⟨h, rfl⟩⟩
    · exact ⟨_, .inr ⟨by omega, rfl⟩⟩
  have hvl : v.length ≤ 1 := by rcases hv with ⟨_, rfl⟩ | ⟨_, rfl⟩ <;> simp
  have hh : Chp.holds (1 + (x : Int)) v = true := by
    unfold Chp.holds
    rw [v3]
    rcases hv with ⟨h, rfl⟩ | ⟨h, rfl⟩
    · rw [if_pos (by simpa using h)]; rfl
    · rw [if_neg (by simpa using h)]; rfl
  have hcode : ∀ n : List UInt8, Chp.code (1 + (x : Int), 2, v, n) = if n.length ≤ 253 then 0 else 601 := fun n => if_pos ⟨v1, v2, hh⟩
  have hget : ∀ n : List UInt8, Chp.code (1 + (x : Int), 2, v, n) = 0 → ∀ W, Calls Try.prog 10 #[.string ⟨(Chp.put (1 + (x : Int), 2, v, n)).toArray⟩] W (MsgPost ((1 + (x : Int), 2, v, n), 0) W) := fun n e W => by
    have hb := Chp.body_len _ e
    have h := hget_any (Chp.put (1 + (x : Int), 2, v, n)) W (by rw [Chp.put_good _ e, Chp.wire_length]; omega)
    have h2 := Chp.get_wire _ [] e
    rw [List.append_nil, ← Chp.put_good _ e] at h2
    rwa [h2] at h
  have P := fun W => hput_any (1 + (x : Int)) 2 v (zeros (249 + y)) W (by omega)
  have e0 : Chp.code (1 + (x : Int), 2, v, []) = 0 := hcode []
  have P2 := fun W => hput_any (1 + (x : Int)) 2 v [] W (by omega)
  rw [e0] at P2
  refine names_walk zm z _ x y (249 + y) _ _ v (zeros (249 + y)) w hx hx4 hy hy8 (by rw [hz]; omega) M1 (fun W => zeros_text W (249 + y)) (Lib.hid hv) (Lib.hid fun W => awake_any W) (Lib.hid P) (Lib.hid P2) (Lib.hid (hget [] e0)) (Lib.hid fun hq => ?_) (Lib.hid fun hq => ?_)
  · have e : Chp.code (1 + (x : Int), 2, v, zeros (249 + y)) = 601 := (hcode _).trans (if_neg (by rw [hz]; omega))
    rw [Chp.put_bad _ (by omega), e]
    exact ⟨rfl, rfl⟩
  · have e : Chp.code (1 + (x : Int), 2, v, zeros (249 + y)) = 0 := (hcode _).trans (if_pos (by rw [hz]; omega))
    exact ⟨e, hget _ e⟩
end Go.Proofs.Ytkdlhonbpciceaa.H
