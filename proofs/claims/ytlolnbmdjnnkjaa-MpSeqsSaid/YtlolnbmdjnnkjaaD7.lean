/-
  Contract of the document's own Mp, long heads; whole.
-/
import Derived.Test.YtlolnbmdjnnkjaaD6
import Derived.Test.YtlolnbmdjnnkjaaHigh
namespace Go.Proofs.Ytlolnbmdjnnkjaa.D
open Go.RowKit
set_option maxRecDepth 100000 in
set_option maxHeartbeats 6400000 in
theorem mp_long (b e : Bool) (q h : Int) (d T0 A0 U : List UInt8) (w : World) (hq : 0 ≤ q) (hr : q < 16777216) (hd : d.length ≤ 2048) (hh : q / 65536 = h)
    (x y : UInt8) (hx : (x.toNat : Int) = (Mph.mark b e : Nat)) (hy : (y.toNat : Int) = h)
    (RG : Hid (∀ W, Calls Try.prog 16 #[.bool false] W fun r w' => r = .returned (.int .i64 16777216) ∧ W = w'))
    (T : Hid (∀ W, Calls Try.prog 17 #[.int .i64 q] W fun r w' => r = .returned (.string ⟨T0.toArray⟩) ∧ Below W.heap.size W w')) (r1 : Sums [x, y] T0 A0) (r2 : Sums A0 d U) :
    Calls Try.prog 8 #[.agg #[.bool b, .bool e, .int .i64 q, .string ⟨d.toArray⟩], .bool false] w fun r w' => r = .returned (.tuple #[.string ⟨U.toArray⟩, .int .i64 0]) ∧ Below w.heap.size w w' := by
  unfold Sums at r1 r2
  have HX := Lib.hid (Box.new w [.bool b, .bool e, .int .i64 q, .string ⟨d.toArray⟩] 23)
  have HB := Lib.hid ((Below.refl w.heap.size w).alloc (Nat.le_refl _) (.cells #[.bool b, .bool e, .int .i64 q, .string ⟨d.toArray⟩] 23))
  have d1 : decide (q < 0) = false := decide_eq_false (by omega)
  have d2 : decide (16777216 ≤ q) = false := decide_eq_false (by omega)
  have d3 : decide (2048 < (d.length : Int)) = false := decide_eq_false (by omega)
  have u0 : IntKind.u8.wrap 0 = 0 := by decide
  have u1 : IntKind.u8.wrap 64 = 64 := by decide
  have u2 : IntKind.u8.wrap 128 = 128 := by decide
  have u3 : IntKind.u8.wrap 192 = 192 := by decide
  have u4 : IntKind.u8.wrap h = h := by rw [IntKind.wrap_u8']; omega
  cases b <;> cases e <;>
  · first
      | have hx' : (x.toNat : Int) = 0 := hx.trans (by decide)
      | have hx' : (x.toNat : Int) = 64 := hx.trans (by decide)
      | have hx' : (x.toNat : Int) = 128 := hx.trans (by decide)
      | have hx' : (x.toNat : Int) = 192 := hx.trans (by decide)
    have F := fun W B => conv_two W B x y _ h hx' hy
    obtain ⟨S0, hS0⟩ : ∃ S0, S0 = [x, y] := ⟨_, rfl⟩
    rw [← hS0] at F r1
    clear hx hx' hy hS0
    go_enter Try.func8, Try.ntmps8
    go_wp2_with fail
    go_quiet ((go_at_call 16; exact Calls.quiet_of_same ((RG.out _).mono fun _ _ ⟨h1, h2⟩ => ⟨h1, h2.symm⟩)))
    have X1 := HX.out.below (below_drewN (Below.refl _ _) nq)
    have B1 := below_drewN HB.out nq
    generalize (w.alloc (.cells _ 23)).drewN nq = w1 at *
    have K2 := Lib.hid (nd_of X1 B1)
    have hz := X1.lt
    have k0 := X1 0 _ rfl
    have k1 := X1 1 _ rfl
    clear X1 B1 HX HB d1 d2 RG hq hr
    go_wp2_with fail
    go_region_held (fun a => ND w.heap.size w a (.int .i64 q) (.string ⟨d.toArray⟩)) (first | assumption | exact nd_drew K2.out | exact nd_alloc (by assumption) _ | exact nd_kept (by assumption) hb4)
      (first | (go_at_call 17; (with_reducible refine (T.out _).mono ?_); rintro r w4 ⟨rfl, hb4⟩; obtain ⟨hc4, hf4⟩ := bcell hb4))
    all_goals
      rename_i hH
      have H9 := Lib.hid hH
      clear hH
      go_wp2_with fail
      go_ret2
      exact ⟨rfl, H9.out.2.2.2⟩
theorem head_short (b e : Bool) (n : Nat) : Mph.head true b e n = twoW (Mph.mark b e * 256 + n) := by
  unfold Mph.head Mph.numb Mph.size Mph.unit twoW
  simp [Mph.be]
theorem head_long (b e : Bool) (n : Nat) (h : n < 16777216) : Mph.head false b e n = [UInt8.ofNat (Mph.mark b e), UInt8.ofNat (n / 65536)] ++ twoW n := by
  have hm : Mph.mark b e < 256 := by cases b <;> cases e <;> decide
  unfold Mph.head Mph.numb Mph.size Mph.unit twoW
  generalize Mph.mark b e = m at *
  simp only [Mph.be, if_neg (show ¬ (false = true) by decide), List.nil_append, List.cons_append]
  congr 1
  · apply UInt8.toNat_inj.1
    simp
    omega
  · congr 1
    · apply UInt8.toNat_inj.1
      simp
      omega
    · congr 1
      · apply UInt8.toNat_inj.1
        simp
        omega
      · congr 1
        apply UInt8.toNat_inj.1
        simp
theorem or_mark (b e : Bool) (n : Nat) (h : n < 4096) : bits BinOp.or IntKind.i64 ((Mph.mark b e * 256 : Nat) : Int) n = ((Mph.mark b e * 256 + n : Nat) : Int) := by
  rw [i64_or_nat _ n (by cases b <;> cases e <;> decide) (by omega)]
  congr 1
  cases b <;> cases e
  · exact Nat.zero_or n |>.trans (by simp [Mph.mark])
  · exact nat_join 14 16384 n (by decide) (by omega)
  · exact nat_join 15 32768 n (by decide) (by omega)
  · exact nat_join 14 49152 n (by decide) (by omega)
/-- The contract of the document's own Mp. -/
theorem rmp_any (short b e : Bool) (q : Int) (d : List UInt8) (w : World) :
    Calls Try.prog 8 #[.agg #[.bool b, .bool e, .int .i64 q, .string ⟨d.toArray⟩], .bool short] w fun r w' => r = .returned (.tuple #[.string ⟨(Mph.put short (b, e, q, d)).toArray⟩, .int .i64 (Mph.code short (b, e, q, d))]) ∧ Below w.heap.size w w' := by
  have RG := Lib.hid fun W => ring_any short W
  by_cases hq : 0 ≤ q
  · by_cases hr : q < (Mph.ring short : Int)
    · by_cases hd : d.length ≤ 2048
      · obtain ⟨p1, p2⟩ := Mph.put_good short b e q d ((Mph.good_iff _ _ _).2 ⟨hq, hr, hd⟩)
        rw [p1, p2]
        obtain ⟨n, rfl⟩ : ∃ n : Nat, q = (n : Int) := ⟨q.toNat, by omega⟩
        rw [Int.toNat_natCast]
        cases short
        · have hn : n < 16777216 := by have h : (n : Int) < ((16777216 : Nat) : Int) := hr; omega
          rw [head_long b e n hn]
          have l2 : (twoW n).length = 2 := rfl
          have s1 := sums [UInt8.ofNat (Mph.mark b e), UInt8.ofNat (n / 65536)] (twoW n) (by rw [l2]; simp)
          have s2 := sums ([UInt8.ofNat (Mph.mark b e), UInt8.ofNat (n / 65536)] ++ twoW n) d (by rw [List.length_append, l2]; simp; omega)
          exact mp_long b e n ((n / 65536 : Nat) : Int) d _ _ _ w hq (by omega) hd (by omega) _ _ (by cases b <;> cases e <;> rfl) (by simp; omega) RG (Lib.hid fun W => twoW_any n W) s1 s2
        · have hn : n < 4096 := by have h : (n : Int) < ((4096 : Nat) : Int) := hr; omega
          rw [head_short b e n]
          have l2 : (twoW (Mph.mark b e * 256 + n)).length = 2 := rfl
          exact mp_short b e n _ d _ _ w hq (by omega) hd (or_mark b e n hn) RG (Lib.hid fun W => twoW_any _ W) (sums _ d (by rw [l2]; omega))
      · obtain ⟨p1, p2⟩ := Mph.put_bad short b e q d (by
          cases hg : Mph.good short q d
          · rfl
          · exact absurd ((Mph.good_iff _ _ _).1 hg).2.2 hd)
        rw [p1, p2]
        exact mp_data short b e q _ ⟨d.toArray⟩ w hq hr (by rw [sz]; omega) RG
    · obtain ⟨p1, p2⟩ := Mph.put_bad short b e q d (by
        cases hg : Mph.good short q d
        · rfl
        · exact absurd ((Mph.good_iff _ _ _).1 hg).2.1 hr)
      rw [p1, p2]
      exact mp_ring short b e q _ ⟨d.toArray⟩ w hq (by omega) RG
  · obtain ⟨p1, p2⟩ := Mph.put_bad short b e q d (by
      cases hg : Mph.good short q d
      · rfl
      · exact absurd ((Mph.good_iff _ _ _).1 hg).1 hq)
    rw [p1, p2]
    exact mp_neg short b e q _ w (by omega)
end Go.Proofs.Ytlolnbmdjnnkjaa.D
