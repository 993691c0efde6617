/-
  Contracts of the program's digest: the digest of texts one behind another.
-/
import Derived.Test.YtaagfmnpeimakaaDoorDh5
import Derived.Test.YtaagfmnpeimakaaDoorShelfJ
namespace Go.Proofs.YtaagfmnpeimakaaDoor.Dig
theorem blocks_within (h : St) (A R : List UInt8) (p : Nat) (hp : 64 * p ≤ A.length) : ∀ n, n ≤ p → blocks h (A ++ R) n = blocks h A n
  | 0, _ => rfl
  | n + 1, hn => by
    have ih := blocks_within h A R p hp n (by omega)
    show block (blocks h (A ++ R) n) (((A ++ R).drop (64 * n)).take 64) = block (blocks h A n) ((A.drop (64 * n)).take 64)
    rw [ih, List.drop_append_of_le_length (by omega), List.take_append_of_le_length (by rw [List.length_drop]; omega)]
theorem blocks_append (h : St) (A R : List UInt8) (p : Nat) (hp : A.length = 64 * p) : ∀ q, blocks h (A ++ R) (p + q) = blocks (blocks h A p) R q
  | 0 => blocks_within h A R p (by omega) p (Nat.le_refl _)
  | q + 1 => by
    have ih := blocks_append h A R p hp q
    show block (blocks h (A ++ R) (p + q)) (((A ++ R).drop (64 * (p + q))).take 64) = block (blocks (blocks h A p) R q) ((R.drop (64 * q)).take 64)
    have e : (A ++ R).drop (64 * (p + q)) = R.drop (64 * q) := by
      rw [show 64 * (p + q) = A.length + 64 * q by omega, List.drop_append]
      simp
    rw [ih, e]
theorem pad_ending (l : List UInt8) : pad l = l ++ ending l.length := by
  unfold pad ending
  simp [List.append_assoc]
theorem ending_length (n : Nat) : (ending n).length = 1 + (119 - n % 64) % 64 + 8 := by simp [ending, zeros, len8]; omega
/-- The whole blocks first, then what is left with what fills it up. -/
theorem md5_parts (l : List UInt8) (p q : Nat) (hp : p = l.length / 64) (hq : (l.drop (64 * p) ++ ending l.length).length = 64 * q) :
    md5 l = out (blocks (blocks init (l.take (64 * p)) p) (l.drop (64 * p) ++ ending l.length) q) := by
  have hl : (l.take (64 * p)).length = 64 * p := by rw [List.length_take]; omega
  have e : pad l = l.take (64 * p) ++ (l.drop (64 * p) ++ ending l.length) := by
    rw [← List.append_assoc, List.take_append_drop, pad_ending]
  have hn : (pad l).length / 64 = p + q := by rw [e, List.length_append, hl, hq]; omega
  unfold md5
  rw [hn, e, blocks_append _ _ _ p hl]
theorem rest_64 (l : List UInt8) (p : Nat) (hp : p = l.length / 64) : ∃ q, (l.drop (64 * p) ++ ending l.length).length = 64 * q := by
  refine ⟨(l.drop (64 * p) ++ ending l.length).length / 64, ?_⟩
  rw [List.length_append, List.length_drop, ending_length]
  omega
end Go.Proofs.YtaagfmnpeimakaaDoor.Dig
namespace Go.Proofs.YtaagfmnpeimakaaDoor.Dh
open Go.RowKit
set_option maxRecDepth 100000
set_option maxHeartbeats 3200000 in
theorem sum_any (v : Value) (l : List UInt8) (hl : l.length ≤ 281474976710000) (w : World) (T : Hid (Tab w))
    (J : Hid (Calls Tryd.prog 53 #[v, .string { data := #[] }] w fun e w' => e = .returned (.string ⟨l.toArray⟩) ∧ Below w.heap.size w w')) :
    Calls Tryd.prog 52 #[v] w fun e w' => e = .returned (.string ⟨(Dig.md5 l).toArray⟩) ∧ Below w.heap.size w w' := by
  obtain ⟨n, hn⟩ : ∃ n, n = l.length := ⟨_, rfl⟩
  have hsz : (ByteArray.mk l.toArray).size = n := by rw [sz, hn]
  obtain ⟨q, hq⟩ := Dig.rest_64 l (n / 64) (by rw [hn])
  have hm := Dig.md5_parts l (n / 64) q (by rw [hn]) hq
  obtain ⟨K, hK⟩ : ∃ K, K = 64 * (n / 64) := ⟨_, rfl⟩
  have hw : (n : Int) / 64 * 64 = (K : Int) := by omega
  have hKn : K ≤ n := by omega
  have hnb : n ≤ 281474976710000 := by omega
  have hKi : (K : Int) ≤ (n : Int) := by omega
  have hK0 : (0 : Int) ≤ (K : Int) := by omega
  obtain ⟨A, hA⟩ : ∃ A, A = l.take K := ⟨_, rfl⟩
  obtain ⟨R, hR⟩ : ∃ R, R = l.drop K := ⟨_, rfl⟩
  obtain ⟨E, hE⟩ : ∃ E, E = Dig.ending n := ⟨_, rfl⟩
  obtain ⟨S, hS⟩ : ∃ S, S = R ++ E := ⟨_, rfl⟩
  have hAl : A.length = 64 * (n / 64) := by rw [hA, List.length_take]; omega
  rw [← hK, ← hn, ← hA, ← hR, ← hE, ← hS] at hm
  rw [← hK, ← hn, ← hR, ← hE, ← hS] at hq
  have hRl : R.length ≤ 64 := by rw [hR, List.length_drop]; omega
  have hEl : E.length ≤ 100 := by rw [hE, Dig.ending_length]; omega
  have hSl : S.length ≤ 200 := by rw [hS, List.length_append]; omega
  have hx1 : (ByteArray.mk l.toArray).extract 0 K = ⟨A.toArray⟩ := by rw [cut_list, hA]; simp
  have hx2 : (ByteArray.mk l.toArray).extract K n = ⟨R.toArray⟩ := by
    have := tail_list l K
    rwa [hsz, ← hR] at this
  have sm : Sums R E S := hS ▸ sums R E (by omega)
  have EN := Lib.hid fun W => ending_any n (by omega) W
  rw [← hE] at EN
  have AA1 := Lib.hid fun W (T : Hid (Tab W)) => all_any Dig.init A (n / 64) hAl (by omega) W T
  generalize Dig.blocks Dig.init A (n / 64) = s1 at *
  have AA2 := Lib.hid fun W (T : Hid (Tab W)) => all_any s1 S q hq (by omega) W T
  generalize Dig.blocks s1 S q = s2 at *
  have TX := Lib.hid fun W => text_any s2 W
  rw [← hm] at TX
  generalize Dig.md5 l = D at *
  obtain ⟨p1, u1, r1, t1⟩ := s1
  obtain ⟨p2, u2, r2, t2⟩ := s2
  have hi0 : stC Dig.init = [.int .u32 1732584193, .int .u32 4023233417, .int .u32 2562383102, .int .u32 271733878] := rfl
  have AB1 := AA1.out
  have AB2 := AA2.out
  have TB := TX.out
  rw [hi0] at AB1
  simp only [stC] at AB1 AB2 TB
  have AA1 := Lib.hid AB1
  have AA2 := Lib.hid AB2
  have TX := Lib.hid TB
  clear AB1 AB2 TB hi0 hm hq hS hE hR hA hK hn hAl hRl hEl hSl
  go_enter Tryd.func52, Tryd.ntmps52
  go_wp2_with (go_at_call 53; refine J.out.mono ?_; rintro e w2 ⟨rfl, hb2⟩; have B2 := Lib.hid hb2; clear hb2)
  obtain ⟨w3, hw3⟩ : ∃ w3, w3 = w2.alloc (.cells #[.int .u32 1732584193, .int .u32 4023233417, .int .u32 2562383102, .int .u32 271733878] 93) := ⟨_, rfl⟩
  have A3 : Hid (Arr w2.heap.size w3 [.int .u32 1732584193, .int .u32 4023233417, .int .u32 2562383102, .int .u32 271733878]) := Lib.hid (hw3 ▸ Arr.new w2 [.int .u32 1732584193, .int .u32 4023233417, .int .u32 2562383102, .int .u32 271733878] 93)
  have B3 : Hid (Below w.heap.size w w3) := Lib.hid (hw3 ▸ B2.out.alloc B2.out.size _)
  rw [← hw3]
  clear hw3
  have hgz : w.heap.size ≤ w2.heap.size := B2.out.size
  have GZ := Lib.hid hgz
  clear hgz
  generalize w2.heap.size = g at *
  have c0 := A3.out.cell 0 _ rfl
  have c1 := A3.out.cell 1 _ rfl
  have c2 := A3.out.cell 2 _ rfl
  have c3 := A3.out.cell 3 _ rfl
  go_region_with (go_at_call 54; refine (AA1.out _ (Lib.hid (T.out.below B3.out.drew))).mono ?_; rintro e w5 ⟨rfl, hb5⟩; have Y5 := Lib.hid (Arr.below (w := w3.drew) A3.out hb5); have g0 := Y5.out.cell 0 _ rfl; have g1 := Y5.out.cell 1 _ rfl; have g2 := Y5.out.cell 2 _ rfl; have g3 := Y5.out.cell 3 _ rfl; have fz5 : ∀ o, w5.frozen? ⟨g, o, none⟩ = false := (fun o => Y5.out.frozen o); have B5 := Lib.hid (bel2 B3.out.drew hb5); clear hb5)
  obtain ⟨w6, hw6⟩ : ∃ w6, w6 = ((((w5.setCell ⟨g, 0, none⟩ (.int .u32 (p1.toNat : Int))).setCell ⟨g, 1, none⟩ (.int .u32 (u1.toNat : Int))).setCell ⟨g, 2, none⟩ (.int .u32 (r1.toNat : Int))).setCell ⟨g, 3, none⟩ (.int .u32 (t1.toNat : Int))) := ⟨_, rfl⟩
  rw [← hw6]
  have A6 : Hid (Arr g w6 [.int .u32 (p1.toNat : Int), .int .u32 (u1.toNat : Int), .int .u32 (r1.toNat : Int), .int .u32 (t1.toNat : Int)]) := Lib.hid (hw6 ▸ (((Y5.out.set 0 _).set 1 _).set 2 _).set 3 _)
  have B6 : Hid (Below w.heap.size w w6) := Lib.hid (hw6 ▸ below_of_grown B5.out (four_grown g w5 _ _ _ _) GZ.out rfl)
  clear hw6 g0 g1 g2 g3 fz5 Y5 c0 c1 c2 c3 A3 AA1
  go_wp2_with fail
  have c0 := A6.out.cell 0 _ rfl
  have c1 := A6.out.cell 1 _ rfl
  have c2 := A6.out.cell 2 _ rfl
  have c3 := A6.out.cell 3 _ rfl
  go_region_with (first | (go_at_call 55; refine (EN.out _).mono ?_; rintro e w7 ⟨rfl, hb7⟩; have Y7 := Lib.hid (Arr.below (w := w6.drew) A6.out hb7); have m0 := Y7.out.cell 0 _ rfl; have m1 := Y7.out.cell 1 _ rfl; have m2 := Y7.out.cell 2 _ rfl; have m3 := Y7.out.cell 3 _ rfl; have B7 := Lib.hid (bel2 B6.out.drew hb7); clear hb7) | (go_at_call 54; refine (AA2.out _ (Lib.hid (T.out.below B7.out))).mono ?_; rintro e w8 ⟨rfl, hb8⟩; have Y8 := Lib.hid (Arr.below Y7.out hb8); have g0 := Y8.out.cell 0 _ rfl; have g1 := Y8.out.cell 1 _ rfl; have g2 := Y8.out.cell 2 _ rfl; have g3 := Y8.out.cell 3 _ rfl; have fz8 : ∀ o, w8.frozen? ⟨g, o, none⟩ = false := (fun o => Y8.out.frozen o); have B8 := Lib.hid (bel2 B7.out hb8); clear hb8))
  all_goals
    obtain ⟨w9, hw9⟩ : ∃ w9, w9 = ((((w8.setCell ⟨g, 0, none⟩ (.int .u32 (p2.toNat : Int))).setCell ⟨g, 1, none⟩ (.int .u32 (u2.toNat : Int))).setCell ⟨g, 2, none⟩ (.int .u32 (r2.toNat : Int))).setCell ⟨g, 3, none⟩ (.int .u32 (t2.toNat : Int))) := ⟨_, rfl⟩
    rw [← hw9]
    have A9 : Hid (Arr g w9 [.int .u32 (p2.toNat : Int), .int .u32 (u2.toNat : Int), .int .u32 (r2.toNat : Int), .int .u32 (t2.toNat : Int)]) := Lib.hid (hw9 ▸ (((Y8.out.set 0 _).set 1 _).set 2 _).set 3 _)
    have B9 : Hid (Below w.heap.size w w9) := Lib.hid (hw9 ▸ below_of_grown B8.out (four_grown g w8 _ _ _ _) GZ.out rfl)
    clear hw9 g0 g1 g2 g3 fz8 Y8 c0 c1 c2 c3 A6 AA2
    have d0 := A9.out.cell 0 _ rfl
    have d1 := A9.out.cell 1 _ rfl
    have d2 := A9.out.cell 2 _ rfl
    have d3 := A9.out.cell 3 _ rfl
    go_wp2_with (go_at_call 56; refine (TX.out _).mono ?_; rintro e wa ⟨rfl, hba⟩; have BA := Lib.hid (bel2 B9.out hba); clear hba)
    go_ret
    exact ⟨rfl, BA.out⟩
end Go.Proofs.YtaagfmnpeimakaaDoor.Dh
