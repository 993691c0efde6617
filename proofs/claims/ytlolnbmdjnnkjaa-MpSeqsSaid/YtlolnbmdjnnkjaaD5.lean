/-
  Contracts of the program's Put and Get of fragments at any fragment, at any text.
-/
import Derived.Test.YtlolnbmdjnnkjaaD4
namespace Go.Proofs.Ytlolnbmdjnnkjaa.D
open Go.RowKit
theorem dput_of (short b e : Bool) (zn : Nat) (B E M q : Int) (d : List UInt8) (w : World) (hzn : Mph.size short = zn) (hz : 1 ≤ zn ∧ zn ≤ 4) (hM : bits BinOp.and IntKind.u32 (q % 4294967296) M = q % (Mph.ring short : Int)) (hr : 0 < Mph.ring short ∧ Mph.ring short ≤ 16777216)
    (HD : Hid (∀ W, Calls Try.prog 13 #[.bool short] W fun r w' => r = .returned (.agg #[.int .i64 zn, .int .u32 B, .int .u32 E, .int .u32 M]) ∧ Below W.heap.size W w'))
    (NU : ∀ n : Nat, n < Mph.ring short → ∀ s W, Calls Try.prog 15 #[.agg #[.int .i64 zn, .int .u32 B, .int .u32 E, .int .u32 M], .agg #[.bool b, .bool e, .int .i64 n, .string s]] W fun r w' => r = .returned (.int .u32 (Mph.numb short b e n)) ∧ Below W.heap.size W w') :
    Calls Try.prog 7 #[.agg #[.bool b, .bool e, .int .i64 q, .string ⟨d.toArray⟩], .bool short] w fun r w' => r = .returned (.tuple #[.string ⟨(Mph.put short (b, e, q, d)).toArray⟩, .int .i64 (Mph.code short (b, e, q, d))]) ∧ Below w.heap.size w w' := by
  have h0 : 0 ≤ q % (Mph.ring short : Int) ∧ q % (Mph.ring short : Int) ≤ 4294967295 := by
    have h1 := Int.emod_nonneg q (show (Mph.ring short : Int) ≠ 0 by omega)
    have h2 := Int.emod_lt_of_pos q (show (0 : Int) < (Mph.ring short : Int) by omega)
    omega
  have h00 := Int.emod_lt_of_pos q (show (0 : Int) < (Mph.ring short : Int) by omega)
  by_cases hq : 0 ≤ q ∧ q < (Mph.ring short : Int)
  · have hm : (q != q % (Mph.ring short : Int)) = false := by rw [Int.emod_eq_of_lt hq.1 hq.2]; simp
    by_cases hd : d.length ≤ 2048
    · obtain ⟨p1, p2⟩ := Mph.put_good short b e q d ((Mph.good_iff _ _ _).2 ⟨hq.1, hq.2, hd⟩)
      rw [p1, p2]
      have hn := Mph.numb_lt short b e q.toNat (by omega)
      have hn2 : 256 ^ Mph.size short ≤ 256 ^ 4 := Nat.pow_le_pow_right (by omega) (by omega)
      have e1 : ((q.toNat : Nat) : Int) = q := Int.toNat_of_nonneg hq.1
      have NU' := NU q.toNat (by omega) ⟨d.toArray⟩
      rw [e1] at NU'
      have h := put_fine short b e zn (Mph.numb short b e q.toNat) B E M q (q % (Mph.ring short : Int)) d w hz (by omega) hM hm h0 hd HD (Lib.hid NU')
      rw [← hzn] at h
      exact h
    · obtain ⟨p1, p2⟩ := Mph.put_bad short b e q d (by
        cases hg : Mph.good short q d
        · rfl
        · exact absurd ((Mph.good_iff _ _ _).1 hg).2.2 hd)
      rw [p1, p2]
      exact put_long short b e zn B E M q _ ⟨d.toArray⟩ w hM hm h0 (by rw [sz]; omega) HD
  · obtain ⟨p1, p2⟩ := Mph.put_bad short b e q d (by
      cases hg : Mph.good short q d
      · rfl
      · have := (Mph.good_iff _ _ _).1 hg
        exact absurd ⟨this.1, this.2.1⟩ hq)
    rw [p1, p2]
    exact put_seq short b e zn B E M q _ ⟨d.toArray⟩ w hM (by rw [bne_iff_ne]; omega) h0 HD
theorem mask_short (q : Int) : bits BinOp.and IntKind.u32 (q % 4294967296) 4095 = q % ((4096 : Nat) : Int) := by
  have h1 := Int.emod_nonneg q (show (4294967296 : Int) ≠ 0 by omega)
  have h2 := Int.emod_lt_of_pos q (show (0 : Int) < 4294967296 by omega)
  have e := u32_and_nat (q % 4294967296).toNat 4095 (by omega) (by omega)
  rw [nat_mask12, Int.toNat_of_nonneg h1] at e
  refine e.trans ?_
  omega
theorem mask_long (q : Int) : bits BinOp.and IntKind.u32 (q % 4294967296) 16777215 = q % ((16777216 : Nat) : Int) := by
  have h1 := Int.emod_nonneg q (show (4294967296 : Int) ≠ 0 by omega)
  have h2 := Int.emod_lt_of_pos q (show (0 : Int) < 4294967296 by omega)
  have e := u32_and_nat (q % 4294967296).toNat 16777215 (by omega) (by omega)
  rw [nat_mask24, Int.toNat_of_nonneg h1] at e
  refine e.trans ?_
  omega
theorem dput_any (short b e : Bool) (q : Int) (d : List UInt8) (w : World) :
    Calls Try.prog 7 #[.agg #[.bool b, .bool e, .int .i64 q, .string ⟨d.toArray⟩], .bool short] w fun r w' => r = .returned (.tuple #[.string ⟨(Mph.put short (b, e, q, d)).toArray⟩, .int .i64 (Mph.code short (b, e, q, d))]) ∧ Below w.heap.size w w' := by
  cases short
  · exact dput_of false b e 4 2147483648 1073741824 16777215 q d w rfl (by omega) (mask_long q) (by decide) (Lib.hid fun W => head_any false W) (fun n hn s W => number_any false b e n hn s W)
  · exact dput_of true b e 2 32768 16384 4095 q d w rfl (by omega) (mask_short q) (by decide) (Lib.hid fun W => head_any true W) (fun n hn s W => number_any true b e n hn s W)
theorem dget_of (short : Bool) (zn : Nat) (B E M K : Int) (l : List UInt8) (w : World) (hzn : Mph.size short = zn) (hz : 1 ≤ zn ∧ zn ≤ 4) (hr : Mph.ring short ≤ 16777216 ∧ 0 < Mph.ring short) (bt : Bits short B E M K)
    (HD : Hid (∀ W, Calls Try.prog 13 #[.bool short] W fun r w' => r = .returned (.agg #[.int .i64 zn, .int .u32 B, .int .u32 E, .int .u32 M]) ∧ Below W.heap.size W w')) :
    Calls Try.prog 9 #[.string ⟨l.toArray⟩, .bool short] w (FragPost (Mph.get short l) w) := by
  by_cases h : l.length < zn
  · have g : Mph.get short l = (Mph.zero, 800) := if_pos (.inl (by rw [hzn]; exact h))
    rw [g]
    exact get_few short zn B E M _ w (by rw [sz]; exact h) HD
  · obtain ⟨N, hN⟩ : ∃ N, Mph.val (l.take zn) = N := ⟨_, rfl⟩
    have hlt : N < 256 ^ Mph.size short := by
      have h1 := Mph.val_lt (l.take zn)
      rw [List.length_take, Nat.min_eq_left (by omega), hN] at h1
      rw [hzn]; exact h1
    obtain ⟨x, hx, hx2⟩ := bt.x N hlt
    obtain ⟨y, hy, hy2⟩ := bt.y N hlt
    obtain ⟨z, hzz, hz2⟩ := bt.z N hlt
    have hm := bt.m N hlt
    have hT : (ByteArray.mk l.toArray).extract zn (ByteArray.mk l.toArray).size = ⟨(l.drop zn).toArray⟩ := by rw [sz]; exact tail_list l zn
    have hTs : ByteArray.size ⟨(l.drop zn).toArray⟩ = l.length - zn := by rw [sz, List.length_drop]
    have hml := Nat.mod_lt N hr.2
    have ways := Mph.get_ways short l
    rw [hzn, hN] at ways
    obtain ⟨r, hg⟩ : ∃ r, Mph.get short l = r := ⟨_, rfl⟩
    rw [hg] at ways ⊢
    refine get_walk short zn N (N % Mph.ring short) B E M K x y z ⟨(l.drop zn).toArray⟩ ⟨l.toArray⟩ l r.1.1 r.1.2.1 r.1.2.2.1 r.2 ⟨r.1.2.2.2.toArray⟩ w hz (by rw [sz]; omega) (by rw [sz]) (fun k _ _ => rfl) hN bt.k hx hy hzz hm (by omega) hT ?_ ?_ ?_ HD
    · intro hq
      rw [hx2] at hq
      have hf : ¬ Mph.formed short N := by simpa using hq
      rcases ways with ⟨h1, rfl⟩ | ⟨_, _, rfl⟩ | ⟨_, h2, _⟩ | ⟨_, h2, _⟩
      · omega
      · exact ⟨rfl, rfl, rfl, rfl, rfl⟩
      · exact absurd h2 hf
      · exact absurd h2 hf
    · intro hq hl
      rw [hx2] at hq
      have hf : Mph.formed short N := by simpa using hq
      rw [hTs] at hl
      rcases ways with ⟨h1, rfl⟩ | ⟨_, h2, _⟩ | ⟨_, _, _, rfl⟩ | ⟨_, _, h2, _⟩
      · omega
      · exact absurd hf h2
      · exact ⟨rfl, rfl, rfl, rfl, rfl⟩
      · omega
    · intro hq hl
      rw [hx2] at hq
      have hf : Mph.formed short N := by simpa using hq
      rw [hTs] at hl
      rcases ways with ⟨h1, rfl⟩ | ⟨_, h2, _⟩ | ⟨_, _, h2, _⟩ | ⟨_, _, _, rfl⟩
      · omega
      · exact absurd hf h2
      · omega
      · exact ⟨hy2.symm, hz2.symm, rfl, rfl, rfl⟩
theorem dget_any (short : Bool) (l : List UInt8) (w : World) : Calls Try.prog 9 #[.string ⟨l.toArray⟩, .bool short] w (FragPost (Mph.get short l) w) := by
  cases short
  · exact dget_of false 4 2147483648 1073741824 16777215 3238002687 l w rfl (by omega) (by decide) bits_long (Lib.hid fun W => head_any false W)
  · exact dget_of true 2 32768 16384 4095 53247 l w rfl (by omega) (by decide) bits_short (Lib.hid fun W => head_any true W)
end Go.Proofs.Ytlolnbmdjnnkjaa.D
