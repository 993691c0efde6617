/-
  The walk of the law of lengths that are wrong.
-/
import Derived.Test.YtmonoicdejallaaG3
import Derived.Deep.DeepCutAuto
import Derived.Deep.RegionWith
import Derived.Deep.RegionHeld
namespace Go.Proofs.Ytmonoicdejallaa.Z
open Go.RowKit
theorem i64_and63 (n : Int) : bits BinOp.and IntKind.i64 n 63 = n % 64 := i64_mask n 6 (by omega)
/-- Four bytes, wherever they lie, as a string. -/
theorem conv_four (W : World) (B : Nat) (p q u z : UInt8) (x0 x1 x2 x3 : Int) (e0 : (p.toNat : Int) = x0) (e1 : (q.toNat : Int) = x1) (e2 : (u.toNat : Int) = x2) (e3 : (z.toNat : Int) = x3)
    (h0 : W.cell? ⟨B, 0, none⟩ = some (.int .u8 x0)) (h1 : W.cell? ⟨B, 1, none⟩ = some (.int .u8 x1)) (h2 : W.cell? ⟨B, 2, none⟩ = some (.int .u8 x2)) (h3 : W.cell? ⟨B, 3, none⟩ = some (.int .u8 x3)) :
    (convert 43 9 (.slice (some ⟨B, 0, none⟩) 4 4)).run Try.prog W = .ok (.string { data := [p, q, u, z].toArray }) W := by
  refine run_convert_bytes_back W 43 9 5 ⟨B, 0, none⟩ 4 [p, q, u, z] Try.underlying43 Try.underlying5 Try.underlying9 ?_
  intro j hj
  rw [box_add]
  match j, hj with
  | 0, _ => rw [h0, ← e0]; rfl
  | 1, _ => rw [h1, ← e1]; rfl
  | 2, _ => rw [h2, ← e2]; rfl
  | 3, _ => rw [h3, ← e3]; rfl
/-- Four cells of an elder block written: what a later call's slice reads is as it was. -/
theorem four_set {W w4 : World} {B : Nat} {c : Value} {os : List Opt.Op} {u0 u1 u2 u3 : Value} (x0 x1 x2 x3 : Value) (hd : OwnsO W w4 c os) (hB : B < W.heap.size)
    (h0 : w4.cell? ⟨B, 0, none⟩ = some u0) (h1 : w4.cell? ⟨B, 1, none⟩ = some u1) (h2 : w4.cell? ⟨B, 2, none⟩ = some u2) (h3 : w4.cell? ⟨B, 3, none⟩ = some u3) :
    Box B ((((w4.setCell ⟨B, 0, none⟩ x0).setCell ⟨B, 1, none⟩ x1).setCell ⟨B, 2, none⟩ x2).setCell ⟨B, 3, none⟩ x3) [x0, x1, x2, x3] ∧
      ReadsO ((((w4.setCell ⟨B, 0, none⟩ x0).setCell ⟨B, 1, none⟩ x1).setCell ⟨B, 2, none⟩ x2).setCell ⟨B, 3, none⟩ x3) c os := by
  refine ⟨fun j u hj => ?_, ?_⟩
  · match j, hj with
    | 0, hj => simp at hj; subst hj; simp [go_sem, World.cell?_setCell_other, h0]
    | 1, hj => simp at hj; subst hj; simp [go_sem, World.cell?_setCell_other, h1]
    | 2, hj => simp at hj; subst hj; simp [go_sem, World.cell?_setCell_other, h2]
    | 3, hj => simp at hj; subst hj; simp [go_sem, World.cell?_setCell_other, h3]
  · refine O.later (c := .slice (some ⟨B, 0, none⟩) 0 0) (w4 := W) (fun k hk => ?_) hd ?_
    · simp only [Value.ownBlock, Option.some.injEq] at hk
      omega
    · exact grown_set (grown_set (grown_set (grown_cell w4 ⟨B, 0, none⟩ x0) 1 x1) 2 x2) 3 x3
set_option maxRecDepth 100000 in
set_option maxHeartbeats 6400000 in
theorem len_bad (code length y : Int) (x : Nat) (s : ByteArray) (dl U : List UInt8) (p0 p1 p2 p3 : UInt8) (w : World) (hx : wrap64 ((IntKind.u64.wrap code).tmod 4) = (x : Int)) (hx4 : x < 4) (hy : bits .and .i64 length 63 = y) (y1 : 0 ≤ y) (y2 : y ≤ 63)
    (hp0 : (p0.toNat : Int) = 1 + 2 * (x : Int)) (hp1 : (p1.toNat : Int) = 3) (hp2 : (p2.toNat : Int) = 0) (hp3 : (p3.toNat : Int) = y)
    (HS : Hid (s.size ≤ 60 ∧ s = ⟨dl.toArray⟩ ∨ 60 < s.size ∧ s.extract 0 60 = ⟨dl.toArray⟩)) (hsm : s.size ≤ 9223372036854775807) (hdl : dl.length ≤ 60)
    (r1 : Sums [p0, p1, p2, p3] dl U)
    (g : y < 4 ∨ (dl.length : Int) + 4 < y)
    (A : Hid (∀ W, Calls Try.prog 16 #[] W fun e w' => e = .returned (.bool true) ∧ Below W.heap.size W w'))
    (G : Hid (∀ W, Calls Try.prog 10 #[.string ⟨U.toArray⟩] W (BpPost (Bap.zero, 900) W)))
    (SM : Hid (∀ W va, ReadsO W va [] → Calls Try.prog 13 #[.agg #[.int .i64 0, .int .i64 0, .int .i64 0, va], .agg #[.int .i64 0, .int .i64 0, .int .i64 0, .slice none 0 0]] W fun e w' => e = .returned (.bool true) ∧ Below W.heap.size W w')) :
    Calls Try.prog 6 #[.int .i64 code, .int .i64 length, .string s] w fun e w' => e = .returned (.bool true) ∧ Below w.heap.size w w' := by
  unfold Sums at r1
  have c1 : IntKind.u8.wrap (1 + 2 * (x : Int)) = 1 + 2 * (x : Int) := by rw [IntKind.wrap_u8']; omega
  have c2 : IntKind.u8.wrap y = y := by rw [IntKind.wrap_u8']; omega
  have CV := fun W B => conv_four W B p0 p1 p2 p3 _ _ _ _ hp0 hp1 hp2 hp3
  obtain ⟨H, hH⟩ : ∃ H, H = [p0, p1, p2, p3] := ⟨_, rfl⟩
  rw [← hH] at r1 CV
  clear hH hp0 hp1 hp2 hp3
  go_enter Try.func6, Try.ntmps6
  go_wp2_with fail
  refine (A.out _).mono ?_
  rintro e w1 ⟨rfl, hb1⟩
  have B1 := Lib.hid hb1
  clear hb1
  go_upto_if 27 with (fail)
  go_cut [9] (fun t wx => t = .string ⟨dl.toArray⟩ ∧ w1 = wx)
  case first =>
    rcases HS.out with ⟨h1, h2⟩ | ⟨h1, h2⟩
    · subst h2
      clear HS CV r1
      go_wp2_with fail
      go_meet
      case rel => exact ⟨rfl, rfl⟩
    · clear HS CV r1
      go_wp2_with fail
      go_meet
      case rel => exact ⟨rfl, rfl⟩
  case rest =>
    obtain ⟨rfl, rfl⟩ := hcut
    clear HS
    go_wp2_with fail
    refine (G.out _).mono ?_
    rintro e w2 ⟨v, rfl, ho⟩
    obtain ⟨p, cap, rfl⟩ := ho.form2
    have B2 := Lib.hid (bel2 (B1.out.alloc B1.out.size _) ho.2)
    have A2 := (Below.refl w2.heap.size w2).alloc (Nat.le_refl _) (.cells #[.int .i64 0, .int .i64 0, .int .i64 0, .slice p 0 cap] 24)
    have Q2 := Lib.hid (ho.reads.below A2)
    have B3 := Lib.hid (bel2 B2.out A2)
    clear ho A2
    rcases g with g | g
    · go_wp2_with (first | (go_at_call 12; refine (num_any _ _).mono ?_; rintro e w9 ⟨rfl, rfl⟩) | (go_at_call 13; refine (SM.out _ _ Q2.out).mono ?_; rintro e w6 ⟨rfl, hb6⟩; have B6 := Lib.hid (bel2 B3.out hb6); clear hb6))
      go_ret
      exact ⟨rfl, B6.out⟩
    · have g0 : 4 ≤ y := by omega
      go_wp2_with (first | (go_at_call 12; refine (num_any _ _).mono ?_; rintro e w9 ⟨rfl, rfl⟩) | (go_at_call 13; refine (SM.out _ _ Q2.out).mono ?_; rintro e w6 ⟨rfl, hb6⟩; have B6 := Lib.hid (bel2 B3.out hb6); clear hb6))
      go_ret
      exact ⟨rfl, B6.out⟩
set_option maxRecDepth 100000 in
set_option maxHeartbeats 6400000 in
theorem len_good (code length y : Int) (x : Nat) (s : ByteArray) (dl U D V : List UInt8) (p0 p1 p2 p3 : UInt8) (r : Bap.Bp) (E : Int) (m : Nat) (w : World) (hx : wrap64 ((IntKind.u64.wrap code).tmod 4) = (x : Int)) (hx4 : x < 4) (hy : bits .and .i64 length 63 = y) (y1 : 0 ≤ y) (y2 : y ≤ 63)
    (hp0 : (p0.toNat : Int) = 1 + 2 * (x : Int)) (hp1 : (p1.toNat : Int) = 3) (hp2 : (p2.toNat : Int) = 0) (hp3 : (p3.toNat : Int) = y)
    (HS : Hid (s.size ≤ 60 ∧ s = ⟨dl.toArray⟩ ∨ 60 < s.size ∧ s.extract 0 60 = ⟨dl.toArray⟩)) (hsm : s.size ≤ 9223372036854775807) (hdl : dl.length ≤ 60)
    (r1 : Sums [p0, p1, p2, p3] dl U)
    (g1 : 4 ≤ y) (g2 : y ≤ (dl.length : Int) + 4) (e5 : IntKind.i64.wrap (y - 4) = (m : Int)) (hm : m ≤ dl.length) (hD : (ByteArray.mk dl.toArray).extract 0 m = ⟨D.toArray⟩) (r2 : Sums [p0, p1, p2, p3] D V) (hE : E = 0 ∨ E = 900)
    (A : Hid (∀ W, Calls Try.prog 16 #[] W fun e w' => e = .returned (.bool true) ∧ Below W.heap.size W w'))
    (G : Hid (∀ W, Calls Try.prog 10 #[.string ⟨U.toArray⟩] W (BpPost (r, E) W)))
    (G2 : Hid (∀ W, Calls Try.prog 10 #[.string ⟨V.toArray⟩] W (BpPost (r, E) W)))
    (SM : Hid (∀ W va vb, ReadsO W va r.2.2.2 → ReadsO W vb r.2.2.2 → Calls Try.prog 13 #[.agg #[.int .i64 r.1, .int .i64 r.2.1, .int .i64 r.2.2.1, va], .agg #[.int .i64 r.1, .int .i64 r.2.1, .int .i64 r.2.2.1, vb]] W fun e w' => e = .returned (.bool true) ∧ Below W.heap.size W w')) :
    Calls Try.prog 6 #[.int .i64 code, .int .i64 length, .string s] w fun e w' => e = .returned (.bool true) ∧ Below w.heap.size w w' := by
  unfold Sums at r1 r2
  have c1 : IntKind.u8.wrap (1 + 2 * (x : Int)) = 1 + 2 * (x : Int) := by rw [IntKind.wrap_u8']; omega
  have c2 : IntKind.u8.wrap y = y := by rw [IntKind.wrap_u8']; omega
  have CV := fun W B => conv_four W B p0 p1 p2 p3 _ _ _ _ hp0 hp1 hp2 hp3
  obtain ⟨H, hH⟩ : ∃ H, H = [p0, p1, p2, p3] := ⟨_, rfl⟩
  rw [← hH] at r1 CV r2
  clear hH hp0 hp1 hp2 hp3
  go_enter Try.func6, Try.ntmps6
  go_wp2_with fail
  refine (A.out _).mono ?_
  rintro e w1 ⟨rfl, hb1⟩
  have B1 := Lib.hid hb1
  clear hb1
  go_upto_if 27 with (fail)
  go_cut [9] (fun t wx => t = .string ⟨dl.toArray⟩ ∧ w1 = wx)
  case first =>
    rcases HS.out with ⟨h1, h2⟩ | ⟨h1, h2⟩
    · subst h2
      clear HS CV r1
      go_wp2_with fail
      go_meet
      case rel => exact ⟨rfl, rfl⟩
    · clear HS CV r1
      go_wp2_with fail
      go_meet
      case rel => exact ⟨rfl, rfl⟩
  case rest =>
    obtain ⟨rfl, rfl⟩ := hcut
    clear HS
    go_wp2_with fail
    refine (G.out _).mono ?_
    rintro e w2 ⟨v, rfl, ho⟩
    obtain ⟨p, cap, rfl⟩ := ho.form2
    have B2 := Lib.hid (bel2 (B1.out.alloc B1.out.size _) ho.2)
    have A2 := (Below.refl w2.heap.size w2).alloc (Nat.le_refl _) (.cells #[.int .i64 r.1, .int .i64 r.2.1, .int .i64 r.2.2.1, .slice p r.2.2.2.length cap] 24)
    have Q2 := Lib.hid (ho.reads.below A2)
    have B3 := Lib.hid (bel2 B2.out A2)
    have Y3 := Lib.hid (Box.new w2 [.int .i64 r.1, .int .i64 r.2.1, .int .i64 r.2.2.1, .slice p r.2.2.2.length cap] 24)
    have hm2 : (m : Int) ≤ (dl.length : Int) := by omega
    clear ho A2
    go_upto_region 11 with (fail)
    generalize w2.alloc (.cells #[.int .i64 r.1, .int .i64 r.2.1, .int .i64 r.2.2.1, .slice p r.2.2.2.length cap] 24) = w3 at *
    generalize w2.heap.size = N at *
    go_wp2_with fail
    go_region_held (fun a => Below w3.heap.size w3 a) (first | assumption | exact (Below.refl _ w3).drew | exact hS4.alloc hS4.size _ | exact Below.setCell (Below.setCell (Below.setCell (Below.setCell hS4 (Nat.le_refl _) _) (Nat.le_refl _) _) (Nat.le_refl _) _) (Nat.le_refl _) _ | exact Below.setCell (Below.setCell (Below.setCell (Below.setCell hS4 (Nat.le_succ _) _) (Nat.le_succ _) _) (Nat.le_succ _) _) (Nat.le_succ _) _ | exact bel2 (by assumption) hb4 | exact Below.alloc (by assumption) (Below.size (by assumption)) _)
      (first | (go_at_call 10; refine (G2.out _).mono ?_; rintro e w4 ⟨v4, rfl, ho4⟩; obtain ⟨p4, cap4, rfl⟩ := ho4.form2; have hb4 := ho4.2; have hS4 : Below w3.heap.size w3 w4 := bel2 (by assumption) hb4; obtain ⟨hc4, hf4⟩ := bcell hb4))
    · rename_i hH0
      have FB := And.intro (Box.new w4 [.int .i64 r.1, .int .i64 r.2.1, .int .i64 r.2.2.1, .slice p4 r.2.2.2.length cap4] 24) (ho4.reads.below ((Below.refl w4.heap.size w4).alloc (Nat.le_refl _) (.cells #[.int .i64 r.1, .int .i64 r.2.1, .int .i64 r.2.2.1, .slice p4 r.2.2.2.length cap4] 24)))
      have hH := Lib.hid hH0
      have QA := Lib.hid (Q2.out.below hH.out)
      have YA := Y3.out.below hH.out
      have m0 := YA 0 _ rfl
      have m1 := YA 1 _ rfl
      have m2 := YA 2 _ rfl
      have m3 := YA 3 _ rfl
      have n0 := FB.1 0 _ rfl
      have n1 := FB.1 1 _ rfl
      have n2 := FB.1 2 _ rfl
      have n3 := FB.1 3 _ rfl
      have QB := Lib.hid FB.2
      have BA := Lib.hid (bel2 B3.out hH.out)
      clear FB YA hc4 hf4 hb4 ho4 hS4 hH0
      generalize w4.alloc (.cells #[.int .i64 r.1, .int .i64 r.2.1, .int .i64 r.2.2.1, .slice p4 r.2.2.2.length cap4] 24) = wF at *
      generalize w4.heap.size = N4 at *
      rcases hE with rfl | rfl
      · go_wp2_with (first | (go_at_call 12; refine (num_any _ _).mono ?_; rintro e w9 ⟨rfl, rfl⟩) | (go_at_call 13; refine (SM.out _ _ _ QA.out QB.out).mono ?_; rintro e w6 ⟨rfl, hb6⟩; have B6 := Lib.hid (bel2 BA.out hb6); clear hb6))
        go_ret
        exact ⟨rfl, B6.out⟩
      · go_wp2_with (first | (go_at_call 12; refine (num_any _ _).mono ?_; rintro e w9 ⟨rfl, rfl⟩) | (go_at_call 13; refine (SM.out _ _ _ QA.out QB.out).mono ?_; rintro e w6 ⟨rfl, hb6⟩; have B6 := Lib.hid (bel2 BA.out hb6); clear hb6))
        go_ret
        exact ⟨rfl, B6.out⟩
    · rename_i hH0
      have FB := four_set (.int .i64 r.1) (.int .i64 r.2.1) (.int .i64 r.2.2.1) (.slice p4 r.2.2.2.length cap4) ho4 (B := w3.heap.size + 1) (by simp; try omega) ((hc4 _ _ (by simp; try omega)).trans (by simp [go_sem]; rfl)) ((hc4 _ _ (by simp; try omega)).trans (by simp [go_sem]; rfl)) ((hc4 _ _ (by simp; try omega)).trans (by simp [go_sem]; rfl)) ((hc4 _ _ (by simp; try omega)).trans (by simp [go_sem]; rfl))
      have hH := Lib.hid hH0
      have QA := Lib.hid (Q2.out.below hH.out)
      have YA := Y3.out.below hH.out
      have m0 := YA 0 _ rfl
      have m1 := YA 1 _ rfl
      have m2 := YA 2 _ rfl
      have m3 := YA 3 _ rfl
      have n0 := FB.1 0 _ rfl
      have n1 := FB.1 1 _ rfl
      have n2 := FB.1 2 _ rfl
      have n3 := FB.1 3 _ rfl
      have QB := Lib.hid FB.2
      have BA := Lib.hid (bel2 B3.out hH.out)
      clear FB YA hc4 hf4 hb4 ho4 hS4 hH0
      generalize (((w4.setCell ⟨w3.heap.size + 1, 0, none⟩ (.int .i64 r.1)).setCell ⟨w3.heap.size + 1, 1, none⟩ (.int .i64 r.2.1)).setCell ⟨w3.heap.size + 1, 2, none⟩ (.int .i64 r.2.2.1)).setCell ⟨w3.heap.size + 1, 3, none⟩ (.slice p4 r.2.2.2.length cap4) = wF at *
      rcases hE with rfl | rfl
      · go_wp2_with (first | (go_at_call 12; refine (num_any _ _).mono ?_; rintro e w9 ⟨rfl, rfl⟩) | (go_at_call 13; refine (SM.out _ _ _ QA.out QB.out).mono ?_; rintro e w6 ⟨rfl, hb6⟩; have B6 := Lib.hid (bel2 BA.out hb6); clear hb6))
        go_ret
        exact ⟨rfl, B6.out⟩
      · go_wp2_with (first | (go_at_call 12; refine (num_any _ _).mono ?_; rintro e w9 ⟨rfl, rfl⟩) | (go_at_call 13; refine (SM.out _ _ _ QA.out QB.out).mono ?_; rintro e w6 ⟨rfl, hb6⟩; have B6 := Lib.hid (bel2 BA.out hb6); clear hb6))
        go_ret
        exact ⟨rfl, B6.out⟩
    · rename_i hH0
      have FB := four_set (.int .i64 r.1) (.int .i64 r.2.1) (.int .i64 r.2.2.1) (.slice p4 r.2.2.2.length cap4) ho4 (B := w3.heap.size + 1) (by simp; try omega) ((hc4 _ _ (by simp; try omega)).trans (by simp [go_sem]; rfl)) ((hc4 _ _ (by simp; try omega)).trans (by simp [go_sem]; rfl)) ((hc4 _ _ (by simp; try omega)).trans (by simp [go_sem]; rfl)) ((hc4 _ _ (by simp; try omega)).trans (by simp [go_sem]; rfl))
      have hH := Lib.hid hH0
      have QA := Lib.hid (Q2.out.below hH.out)
      have YA := Y3.out.below hH.out
      have m0 := YA 0 _ rfl
      have m1 := YA 1 _ rfl
      have m2 := YA 2 _ rfl
      have m3 := YA 3 _ rfl
      have n0 := FB.1 0 _ rfl
      have n1 := FB.1 1 _ rfl
      have n2 := FB.1 2 _ rfl
      have n3 := FB.1 3 _ rfl
      have QB := Lib.hid FB.2
      have BA := Lib.hid (bel2 B3.out hH.out)
      clear FB YA hc4 hf4 hb4 ho4 hS4 hH0
      generalize (((w4.setCell ⟨w3.heap.size + 1, 0, none⟩ (.int .i64 r.1)).setCell ⟨w3.heap.size + 1, 1, none⟩ (.int .i64 r.2.1)).setCell ⟨w3.heap.size + 1, 2, none⟩ (.int .i64 r.2.2.1)).setCell ⟨w3.heap.size + 1, 3, none⟩ (.slice p4 r.2.2.2.length cap4) = wF at *
      rcases hE with rfl | rfl
      · go_wp2_with (first | (go_at_call 12; refine (num_any _ _).mono ?_; rintro e w9 ⟨rfl, rfl⟩) | (go_at_call 13; refine (SM.out _ _ _ QA.out QB.out).mono ?_; rintro e w6 ⟨rfl, hb6⟩; have B6 := Lib.hid (bel2 BA.out hb6); clear hb6))
        go_ret
        exact ⟨rfl, B6.out⟩
      · go_wp2_with (first | (go_at_call 12; refine (num_any _ _).mono ?_; rintro e w9 ⟨rfl, rfl⟩) | (go_at_call 13; refine (SM.out _ _ _ QA.out QB.out).mono ?_; rintro e w6 ⟨rfl, hb6⟩; have B6 := Lib.hid (bel2 BA.out hb6); clear hb6))
        go_ret
        exact ⟨rfl, B6.out⟩
    · rename_i hH0
      have FB := four_set (.int .i64 r.1) (.int .i64 r.2.1) (.int .i64 r.2.2.1) (.slice p4 r.2.2.2.length cap4) ho4 (B := w3.heap.size) (by simp; try omega) ((hc4 _ _ (by simp; try omega)).trans (by simp [go_sem]; rfl)) ((hc4 _ _ (by simp; try omega)).trans (by simp [go_sem]; rfl)) ((hc4 _ _ (by simp; try omega)).trans (by simp [go_sem]; rfl)) ((hc4 _ _ (by simp; try omega)).trans (by simp [go_sem]; rfl))
      have hH := Lib.hid hH0
      have QA := Lib.hid (Q2.out.below hH.out)
      have YA := Y3.out.below hH.out
      have m0 := YA 0 _ rfl
      have m1 := YA 1 _ rfl
      have m2 := YA 2 _ rfl
      have m3 := YA 3 _ rfl
      have n0 := FB.1 0 _ rfl
      have n1 := FB.1 1 _ rfl
      have n2 := FB.1 2 _ rfl
      have n3 := FB.1 3 _ rfl
      have QB := Lib.hid FB.2
      have BA := Lib.hid (bel2 B3.out hH.out)
      clear FB YA hc4 hf4 hb4 ho4 hS4 hH0
      generalize (((w4.setCell ⟨w3.heap.size, 0, none⟩ (.int .i64 r.1)).setCell ⟨w3.heap.size, 1, none⟩ (.int .i64 r.2.1)).setCell ⟨w3.heap.size, 2, none⟩ (.int .i64 r.2.2.1)).setCell ⟨w3.heap.size, 3, none⟩ (.slice p4 r.2.2.2.length cap4) = wF at *
      rcases hE with rfl | rfl
      · go_wp2_with (first | (go_at_call 12; refine (num_any _ _).mono ?_; rintro e w9 ⟨rfl, rfl⟩) | (go_at_call 13; refine (SM.out _ _ _ QA.out QB.out).mono ?_; rintro e w6 ⟨rfl, hb6⟩; have B6 := Lib.hid (bel2 BA.out hb6); clear hb6))
        go_ret
        exact ⟨rfl, B6.out⟩
      · go_wp2_with (first | (go_at_call 12; refine (num_any _ _).mono ?_; rintro e w9 ⟨rfl, rfl⟩) | (go_at_call 13; refine (SM.out _ _ _ QA.out QB.out).mono ?_; rintro e w6 ⟨rfl, hb6⟩; have B6 := Lib.hid (bel2 BA.out hb6); clear hb6))
        go_ret
        exact ⟨rfl, B6.out⟩
theorem cut_at (s : ByteArray) (k : Nat) (h : k < s.size) : ∃ dl : List UInt8, s.extract 0 k = ⟨dl.toArray⟩ ∧ dl.length = k := by
  obtain ⟨l, rfl⟩ : ∃ l : List UInt8, s = ⟨l.toArray⟩ := ⟨s.data.toList, by simp⟩
  rw [sz] at h
  exact ⟨l.take k, cut_list l 0 k, by rw [List.length_take]; omega⟩
theorem byte_at (n : Nat) (h : n < 256) : (UInt8.ofNat n).toNat = n := by simp; omega
theorem len_get (p y : UInt8) (dl : List UInt8) (_ : dl.length ≤ 60) (hy : y.toNat ≤ 63) (h1 : 1 ≤ p.toNat) (h2 : p.toNat ≤ 8) :
    (y.toNat < 4 ∨ dl.length + 4 < y.toNat → Bap.get ([p, 3, 0, y] ++ dl) = (Bap.zero, 900)) ∧
    (4 ≤ y.toNat → y.toNat ≤ dl.length + 4 → Bap.get ([p, 3, 0, y] ++ dl) = Bap.body p.toNat (3 : UInt8).toNat (dl.take (y.toNat - 4))) := by
  have hg := (gd_byte p 3).2 ⟨h1, h2⟩
  have e3 : (0 : UInt8).toNat * 256 + y.toNat = y.toNat := by simp
  constructor
  · intro h
    show Bap.get (_ :: _ :: _ :: _ :: dl) = _
    rw [Bap.get_four, e3, if_pos (by rcases h with h | h; exact .inl h; exact .inr (.inl h))]
  · intro g1 g2
    show Bap.get (_ :: _ :: _ :: _ :: dl) = _
    rw [Bap.get_four, e3, if_neg (by rw [hg]; simp; omega), if_neg (by omega)]
theorem body_code (c i : Int) (b : List UInt8) (h : Bap.resp c = false) : (Bap.body c i b).2 = 0 ∨ (Bap.body c i b).2 = 900 := by
  rw [Bap.body_req c i b h]
  by_cases hg : (Opt.get b).2 = 0
  · rw [Bap.held_good _ _ _ _ hg]; exact .inl rfl
  · rw [Bap.held_bad _ _ _ _ hg]; exact .inr rfl
theorem walk_lengths (code length : Int) (s : ByteArray) (w : World) (_ : (Lit.int .i64 code).wf = true) (_ : (Lit.int .i64 length).wf = true) (hs : s.size ≤ maxLen) :
    Calls Try.prog 6 #[.int .i64 code, .int .i64 length, .string s] w fun e w' => e = .returned (.bool true) ∧ Below w.heap.size w w' := by
  obtain ⟨x, hx, hx4⟩ := by_pow code 4 (by omega) (by omega)
  have a2 := i64_and63 length
  obtain ⟨y, hy⟩ : ∃ y : Nat, (y : Int) = length % 64 := ⟨(length % 64).toNat, by omega⟩
  rw [← hy] at a2
  have y2 : y ≤ 63 := by omega
  clear hy
  have hsm : s.size ≤ 9223372036854775807 := by unfold maxLen at hs; omega
  have A := Lib.hid fun W => awake_any W
  obtain ⟨dl, HS, hdl⟩ : ∃ dl : List UInt8, (s.size ≤ 60 ∧ s = ⟨dl.toArray⟩ ∨ 60 < s.size ∧ s.extract 0 60 = ⟨dl.toArray⟩) ∧ dl.length ≤ 60 := by
    by_cases h : 60 < s.size
    · obtain ⟨dl, h1, h2⟩ := cut_at s 60 h
      exact ⟨dl, .inr ⟨h, h1⟩, by omega⟩
    · exact ⟨s.data.toList, .inl ⟨by omega, by simp⟩, by simp; omega⟩
  have ep := byte_at (1 + 2 * x) (by omega)
  have ey := byte_at y (by omega)
  obtain ⟨p, hp⟩ : ∃ p, p = UInt8.ofNat (1 + 2 * x) := ⟨_, rfl⟩
  obtain ⟨q, hq⟩ : ∃ q, q = UInt8.ofNat y := ⟨_, rfl⟩
  rw [← hp] at ep
  rw [← hq] at ey
  have hr : Bap.resp (p.toNat : Int) = false := by unfold Bap.resp; rw [beq_eq_false_iff_ne, ep]; omega
  have main : ∀ l : List UInt8, l.length ≤ 60 → Sums [p, 3, 0, q] l ([p, 3, 0, q] ++ l) ∧ ∀ W, Calls Try.prog 10 #[.string ⟨([p, 3, 0, q] ++ l).toArray⟩] W (BpPost (Bap.get ([p, 3, 0, q] ++ l)) W) := fun l hl =>
    ⟨sums _ _ (by simp; omega), fun W => bget_any _ W (by rw [List.length_append]; simp; omega)⟩
  obtain ⟨r1, G⟩ := main dl hdl
  have b := len_get p q dl hdl (by omega) (by omega) (by omega)
  clear hp hq
  by_cases hg : y < 4 ∨ dl.length + 4 < y
  · rw [b.1 (by omega)] at G
    exact len_bad code length y x s dl _ p 3 0 q w hx (by omega) a2 (by omega) (by omega) (by omega) rfl rfl (by omega) (Lib.hid HS) hsm hdl r1 (by omega) A (Lib.hid G) (Lib.hid fun W va hv => sameb_any _ _ _ va _ [] W hv (reads_nil W) (by decide))
  · have hb2 := b.2 (by omega) (by omega)
    rw [hb2] at G
    have hm : q.toNat - 4 ≤ dl.length := by omega
    have hDl : (dl.take (q.toNat - 4)).length = q.toNat - 4 := by rw [List.length_take]; omega
    obtain ⟨r2, G2⟩ := main (dl.take (q.toNat - 4)) (by omega)
    have b3 := (len_get p q (dl.take (q.toNat - 4)) (by omega) (by omega) (by omega) (by omega)).2 (by omega) (by omega)
    rw [List.take_take, Nat.min_self] at b3
    rw [b3] at G2
    have hE := body_code p.toNat (3 : UInt8).toNat (dl.take (q.toNat - 4)) hr
    have hc := Bap.body_count p.toNat (3 : UInt8).toNat (dl.take (q.toNat - 4))
    have wi : IntKind.i64.wrap ((y : Int) - 4) = ((q.toNat - 4 : Nat) : Int) := by rw [IntWalk.i64_in _ (by omega)]; omega
    exact len_good code length y x s dl _ (dl.take (q.toNat - 4)) _ p 3 0 q (Bap.body p.toNat (3 : UInt8).toNat (dl.take (q.toNat - 4))).1 _ (q.toNat - 4) w hx (by omega) a2 (by omega) (by omega) (by omega) rfl rfl (by omega) (Lib.hid HS) hsm hdl r1 (by omega) (by omega) wi hm (cut_list dl 0 _) r2 hE A (Lib.hid G) (Lib.hid G2) (Lib.hid fun W va vb ha hb => sameb_any _ _ _ va vb _ W ha hb (by omega))
end Go.Proofs.Ytmonoicdejallaa.Z
