/-
  The walk of the law of turned bits.
-/
import Derived.Test.YtfhohfjepnhfcaaMath2
import Derived.Test.YtfhohfjepnhfcaaW7
namespace Go.Proofs.Ytfhohfjepnhfcaa
open Go.RowKit
/-- Block B holds these bytes from its head on, and they may be written. -/
def Holds (B : Nat) (wr : World) (L : List UInt8) : Prop := ∀ j, j < L.length → wr.cell? ⟨B, j, none⟩ = some (.int .u8 ((L.getD j 0).toNat : Int)) ∧ wr.frozen? ⟨B, j, none⟩ = false
theorem bytes_open (W : World) (l : List UInt8) : ∃ (cap : Nat) (W' : World), (convert 9 33 (.string ⟨l.toArray⟩)).run Try.prog W = .ok (.slice (some ⟨W.heap.size, 0, none⟩) l.length cap) W' ∧ Below W.heap.size W W' ∧ Holds W.heap.size W' l ∧ W.heap.size < W'.heap.size := by
  have h := run_bytes_of_string (P := Try.prog) W 9 33 5 ⟨l.toArray⟩ Try.underlying9 Try.underlying33 Try.underlying5
  have e0 : (ByteArray.mk l.toArray).size = l.toArray.size := rfl
  rw [e0] at h
  have hrow := fun j (hj : j < l.length) => bytesRow_at ⟨l.toArray⟩ (grownCap W l.toArray.size 0 5) j (by simpa using hj)
  generalize bytesRow ⟨l.toArray⟩ (grownCap W l.toArray.size 0 5) = R at *
  refine ⟨_, _, h, (Below.refl _ W).drew.alloc (Nat.le_refl _) _, ?_, by show _ < (W.heap.push _).size; simp⟩
  intro j hj
  have hj2 := hrow j hj
  have e1 := World.cell?_alloc_mark W.drew R 5 (R.size, R.size + 1) j
  have e2 := World.frozen?_alloc_mark W.drew R 5 R.size (R.size + 1) j
  have hsz : j < R.size := (Array.getElem?_eq_some_iff.1 hj2).1
  constructor
  · refine e1.trans (hj2.trans ?_)
    simp [List.getD, hj]
  · refine e2.trans ?_
    simp; omega
theorem Holds.back {B : Nat} {wr : World} {L : List UInt8} (h : Holds B wr L) (cap : Nat) : (convert 33 9 (.slice (some ⟨B, 0, none⟩) L.length cap)).run Try.prog wr = .ok (.string ⟨L.toArray⟩) wr := by
  refine run_convert_bytes_back wr 33 9 5 ⟨B, 0, none⟩ cap L Try.underlying33 Try.underlying5 Try.underlying9 ?_
  intro j hj
  have e : (⟨B, 0, none⟩ : Addr).add j = ⟨B, j, none⟩ := by unfold Addr.add; split <;> simp_all
  rw [e, (h j hj).1]
  simp [List.getD, hj]
theorem Holds.set {B : Nat} {wr : World} {L : List UInt8} (h : Holds B wr L) (i : Nat) (hi : i < L.length) (b : UInt8) : Holds B (wr.setCell ⟨B, i, none⟩ (.int .u8 (b.toNat : Int))) (L.set i b) := by
  intro j hj
  rw [List.length_set] at hj
  rw [World.frozen?_setCell]
  refine ⟨?_, (h j hj).2⟩
  by_cases hij : i = j
  · subst hij
    rw [World.cell?_setCell_same _ _ _ (h i hi).1]
    simp [List.getD, hi]
  · rw [World.cell?_setCell_other _ _ _ _ (by intro e; exact hij (by injection e)), (h j hj).1]
    simp [List.getD, hij]
set_option maxHeartbeats 400000 in
theorem bits_long (s : ByteArray) (a1 : Option Addr) (len1 cap1 : Nat) (w : World) (_hs : s.size ≤ maxLen) (h : 1500 < s.size) :
    Calls Try.prog 4 #[.string s, .slice a1 len1 cap1] w fun e w' => e = .returned (.bool true) ∧ Below w.heap.size w w' := by
  go_enter Try.func4, Try.ntmps4
  go_wp2_with (go_at_call 15; refine (awake_any _).mono ?_; rintro e w0 ⟨rfl, hb0⟩)
  go_ret
  exact ⟨rfl, hb0⟩
theorem pick_of (zk : Int) (n : Nat) (h : n ≤ 1500) : ∃ x : Nat, wrap64 ((IntKind.u64.wrap zk).tmod (8 * ((n : Int) + 2))) = (x : Int) ∧ x < 8 * (n + 2) := by
  have h0 := wrap_u64_nonneg zk
  generalize IntKind.u64.wrap zk = y at *
  have hm : y.tmod (8 * ((n : Int) + 2)) = y % (8 * ((n : Int) + 2)) := Int.tmod_eq_emod_of_nonneg h0
  have h1 := Int.emod_nonneg y (b := 8 * ((n : Int) + 2)) (by omega)
  have h2 := Int.emod_lt_of_pos y (b := 8 * ((n : Int) + 2)) (by omega)
  refine ⟨(y % (8 * ((n : Int) + 2))).toNat, ?_, by omega⟩
  rw [hm, IntWalk.wrap64_in _ ⟨by omega, by omega⟩]
  omega
theorem flips_length (l : List Nat) (t : List UInt8) : (l.foldl Crc.flip t).length = t.length := by
  induction l generalizing t with
  | nil => rfl
  | cons a l ih => rw [List.foldl_cons, ih, Crc.flip_length]
theorem flip_int (b : UInt8) (x : Nat) : bits BinOp.xor IntKind.u8 (b.toNat : Int) (2 ^ (x % 8) % 256) = ((b ^^^ UInt8.ofNat (2 ^ (x % 8))).toNat : Int) := by
  have h := Crc.bit_lt (x % 8) (by omega)
  have e : ((2 : Int) ^ (x % 8) % 256) = ((2 ^ (x % 8) : Nat) : Int) := by
    rw [Int.natCast_pow]
    have : ((2 ^ (x % 8) : Nat) : Int) < 256 := by omega
    rw [Int.natCast_pow] at this
    exact Int.emod_eq_of_lt (by have := Int.natCast_nonneg (2 ^ (x % 8)); rwa [Int.natCast_pow] at this) this
  rw [e, u8_xor_nat _ _ (by have := b.toNat_lt; omega) h, UInt8.toNat_xor]
  congr 2
  simp
  omega
set_option maxHeartbeats 400000 in
theorem bits_short (s : ByteArray) (a1 : Option Addr) (len1 cap1 : Nat) (w : World) (h : s.size ≤ 1500) (hlm : len1 ≤ maxLen) (A : Nat → Addr) (z : Nat → Int)
    (hix : ∀ k, k < len1 → ∀ W, (Instr.indexAt 32 (.slice a1 len1 cap1) (.int .i64 (k : Int))).run Try.prog W = .ok (.pointer (some (A k))) W)
    (hcell : ∀ k, k < len1 → w.cell? (A k) = some (.int .i64 (z k)) ∧ (A k).block < w.heap.size) :
    Calls Try.prog 4 #[.string s, .slice a1 len1 cap1] w fun e w' => e = .returned (.bool true) ∧ Below w.heap.size w w' := by
  have HI := Lib.hid hix
  have HC := Lib.hid hcell
  clear hix hcell
  have hlm1 : len1 ≤ 9223372036854775807 := by unfold maxLen at hlm; omega
  clear hlm
  have hlen : (Crc.put s.data.toList).length = s.size + 2 := by rw [Crc.put_length]; simp
  have p1 := fun w => put_any s w (by unfold maxLen; omega)
  have c1 := fun w => check_list (Crc.put s.data.toList) w (by simp only [ByteArray.size, List.size_toArray]; omega)
  rw [Crc.check_put] at c1
  have P1 := Lib.hid p1
  have C1 := Lib.hid c1
  have hse : (s.data.toList == s.toList) = true := by rw [ByteArray.toList_eq]; simp
  clear p1 c1
  have HR := Lib.hid (Crc.reg_put s.data.toList)
  generalize Crc.put s.data.toList = T at *
  go_enter Try.func4, Try.ntmps4
  go_wp2_with fail
  refine (awake_any _).mono ?_
  rintro e w0 ⟨rfl, hb0⟩
  go_wp2_with fail
  refine (P1.out _).mono ?_
  rintro e w1 ⟨rfl, hb1⟩
  go_wp2_with fail
  refine (C1.out _).mono ?_
  rintro e w2 ⟨rfl, hb2⟩
  obtain ⟨cap, W0, hbs, hb3, hho, hlt0⟩ := bytes_open w2 T
  have HO := Lib.hid hho
  clear hho
  have HL := Lib.hid hlen
  go_wp2_with (go_at_call 14; refine (num_any _ _).mono ?_; rintro e w9 ⟨rfl, rfl⟩)
  have B12 : w.heap.size ≤ w2.heap.size := (bel2 (bel2 hb0 hb1) hb2).size
  have B3 : Below w.heap.size w W0 := bel2 (bel2 (bel2 hb0 hb1) hb2) hb3
  clear hbs hlen
  go_loopw [10] (fun i wr => ∃ (k : Nat) (ks : List Nat), k ≤ len1 ∧ k ≤ 3 ∧ i = .int .i64 k ∧ ks.length = k ∧ (∀ x ∈ ks, x < 8 * T.length) ∧ Holds w2.heap.size wr (ks.foldl Crc.flip T) ∧ Below w.heap.size w wr) (fun i _ => 3 - (intOf i).toNat)
  case atStart => exact ⟨0, [], by omega, by omega, rfl, rfl, by simp, HO.out, B3⟩
  case round =>
    obtain ⟨k, ks, hk1, hk3, rfl, hks, hkb, hho, B4⟩ := hrel
    have HO := Lib.hid hho
    have HK := Lib.hid hks
    have HB := Lib.hid hkb
    clear hho hks hkb
    have HLl := Lib.hid ((flips_length ks T).trans HL.out)
    by_cases hlt : k < len1 ∧ k < 3
    · obtain ⟨hl1, hl2⟩ := hlt
      have hi := HI.out k hl1
      have hc := (HC.out k hl1).1
      rw [← B4.cell (HC.out k hl1).2] at hc
      generalize A k = Ak at *
      generalize z k = zk at *
      obtain ⟨x, ex, hx⟩ := pick_of zk s.size h
      obtain ⟨hc8, hf8⟩ := HO.out (x / 8) (by rw [HLl.out]; omega)
      have hx8 : x / 8 < s.size + 2 := by omega
      have hvl := ((ks.foldl Crc.flip T).getD (x / 8) 0).toNat_lt
      generalize hve : ((ks.foldl Crc.flip T).getD (x / 8) 0).toNat = v at *
      have HV := Lib.hid hve
      clear hve
      go_wp2_with fail
      go_region
      go_wp2
      go_roundw
      case rel =>
        refine ⟨k + 1, ks ++ [x], by omega, by omega, by go_num, by rw [List.length_append, HK.out]; rfl, ?_, ?_, (B4.setCell (Nat.le_trans B12 (Nat.le_refl _)) _).drew⟩
        · intro y hy
          rcases List.mem_append.1 hy with hy | hy
          · exact HB.out y hy
          · rw [List.mem_singleton.1 hy, HL.out]; exact hx
        · rw [List.foldl_append, List.foldl_cons, List.foldl_nil]
          have e := flip_int ((ks.foldl Crc.flip T).getD (x / 8) 0) x
          rw [HV.out] at e
          rw [e]
          exact HO.out.set (x / 8) (by rw [HLl.out]; omega) _
      case measure => simp [intOf]; omega
    · have hcv := HO.out.back cap
      rw [HLl.out] at hcv
      have c2 := fun w => check_list (ks.foldl Crc.flip T) w (by simp only [ByteArray.size, List.size_toArray]; rw [HLl.out]; omega)
      have hbad : ks.foldl Crc.flip T ≠ T → Crc.check (ks.foldl Crc.flip T) = ([], 101) := fun hne =>
        Crc.turned T ks HR.out (by rw [HL.out]; omega) (by rw [HL.out]; omega) (by rw [HK.out]; omega) HB.out hne
      have hq : (k < len1 ∧ 3 ≤ k) ∨ len1 ≤ k := by omega
      clear hlt
      by_cases heq : ks.foldl Crc.flip T = T
      · rw [heq] at hcv
        clear c2 hbad heq
        rcases hq with ⟨hl1, hl2⟩ | hl1
        · go_wp2_with fail
          refine (C1.out _).mono ?_
          rintro e w4 ⟨rfl, hb4⟩
          go_wp2_with (go_at_call 14; refine (num_any _ _).mono ?_; rintro e w9 ⟨rfl, rfl⟩)
          go_ret
          exact ⟨rfl, bel2 B4 hb4⟩
        · go_wp2_with fail
          refine (C1.out _).mono ?_
          rintro e w4 ⟨rfl, hb4⟩
          go_wp2_with (go_at_call 14; refine (num_any _ _).mono ?_; rintro e w9 ⟨rfl, rfl⟩)
          go_ret
          exact ⟨rfl, bel2 B4 hb4⟩
      · rw [hbad heq] at c2
        have C2 := Lib.hid c2
        have hne : (ks.foldl Crc.flip T == T) = false := beq_eq_false_iff_ne.2 heq
        clear c2 hbad heq
        rcases hq with ⟨hl1, hl2⟩ | hl1
        · go_wp2_with fail
          refine (C2.out _).mono ?_
          rintro e w4 ⟨rfl, hb4⟩
          go_wp2_with (go_at_call 14; refine (num_any _ _).mono ?_; rintro e w9 ⟨rfl, rfl⟩)
          go_ret
          exact ⟨rfl, bel2 B4 hb4⟩
        · go_wp2_with fail
          refine (C2.out _).mono ?_
          rintro e w4 ⟨rfl, hb4⟩
          go_wp2_with (go_at_call 14; refine (num_any _ _).mono ?_; rintro e w9 ⟨rfl, rfl⟩)
          go_ret
          exact ⟨rfl, bel2 B4 hb4⟩
theorem walk_bits (a0 : ByteArray) (a1 : Option Addr) (len1 cap1 : Nat) (z1 : List Int) (w : World) (w0 : a0.size ≤ maxLen)
    (w1 : (a1 = none ∧ len1 = 0 ∧ cap1 = 0 ∧ z1 = []) ∨ ∃ x, a1 = some x ∧ len1 ≤ cap1 ∧ cap1 ≤ maxLen ∧ z1.length = cap1 ∧ (∀ i, i < z1.length → w.cell? (x.add i) = some (.int .i64 (z1.getD i 0))) ∧ ∀ n ∈ z1, (Lit.int .i64 n).wf = true)
    (_r0 : a0.size ≤ 140737488351232) :
    Calls Try.prog 4 #[.string a0, .slice a1 len1 cap1] w fun e w' => e = .returned (.bool true) ∧ Below w.heap.size w w' := by
  by_cases h : 1500 < a0.size
  · exact bits_long a0 a1 len1 cap1 w w0 h
  · rcases w1 with ⟨rfl, rfl, rfl, rfl⟩ | ⟨x, rfl, hl, hm, hz, hcell, hwf⟩
    · exact bits_short a0 none 0 0 w (by omega) (by omega) (fun _ => ⟨0, 0, none⟩) (fun _ => 0) (by intro k hk; omega) (by intro k hk; omega)
    · refine bits_short a0 (some x) len1 cap1 w (by omega) (by omega) (fun k => x.add k) (fun k => z1.getD k 0) ?_ ?_
      · intro k hk W
        have hs : (sizeOf (Try.prog.elem 32)).run Try.prog W = .ok 1 W := Try.sizeOf3 W
        have e := run_indexAt_slice (P := Try.prog) W 32 x len1 cap1 .i64 (k : Int) Try.underlying32
        rw [if_pos (by omega), hs] at e
        simpa [Result.andThen] using e
      · intro k hk
        have hc := hcell k (by omega)
        exact ⟨hc, block_lt_of_cell hc⟩
end Go.Proofs.Ytfhohfjepnhfcaa
