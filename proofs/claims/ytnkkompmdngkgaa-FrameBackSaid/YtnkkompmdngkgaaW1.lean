/-
  Contracts of the sum's own functions, over any world: the table of half bytes, the sum, its two bytes, put, checked.
-/
import Derived.Test.YtnkkompmdngkgaaProg
import Derived.Test.YtnkkompmdngkgaaNum
import Derived.Test.YtnkkompmdngkgaaMath
import Derived.WalkKit
import Derived.WalkSpells
import Derived.WalkLawsBesides
import Derived.KernelRfl
import Derived.Laws.CopyOwn
import Derived.Deep.WholeRow
import Derived.Outline
namespace Go.Proofs.Ytnkkompmdngkgaa.F
open Go.RowKit
/-- The table so far. -/
def tab (k : Nat) : Array Value := ((List.range 16).map fun i => Value.int .u16 (if i < k then (Crc.steps 4 i : Nat) else 0)).toArray
theorem tab_zero : tab 0 = #[Value.int .u16 0, Value.int .u16 0, Value.int .u16 0, Value.int .u16 0, Value.int .u16 0, Value.int .u16 0, Value.int .u16 0, Value.int .u16 0, Value.int .u16 0, Value.int .u16 0, Value.int .u16 0, Value.int .u16 0, Value.int .u16 0, Value.int .u16 0, Value.int .u16 0, Value.int .u16 0] := by kernel_rfl
theorem tab_full : tab 16 = #[Value.int .u16 0, Value.int .u16 4225, Value.int .u16 8450, Value.int .u16 12675, Value.int .u16 16900, Value.int .u16 21125, Value.int .u16 25350, Value.int .u16 29575, Value.int .u16 33800, Value.int .u16 38025, Value.int .u16 42250, Value.int .u16 46475, Value.int .u16 50700, Value.int .u16 54925, Value.int .u16 59150, Value.int .u16 63375] := by kernel_rfl
theorem tab_at (k j : Nat) (hj : j < 16) : (tab k)[j]? = some (Value.int .u16 (if j < k then (Crc.steps 4 j : Nat) else 0)) := by
  unfold tab
  simp [hj]
theorem tab_set (k : Nat) (hk : k < 16) : (tab k).setIfInBounds k (Value.int .u16 (Crc.steps 4 k : Nat)) = tab (k + 1) := by
  apply Array.ext_getElem?
  intro j
  rw [Array.getElem?_setIfInBounds]
  have hs : (tab k).size = 16 := by simp [tab]
  by_cases hj : j < 16
  · rw [tab_at _ j hj, tab_at _ j hj]
    by_cases h : k = j
    · subst h; simp [hs, hk]
    · rw [if_neg h]
      have : (j < k) = (j < k + 1) := by rw [eq_iff_iff]; omega
      simp only [this]
  · have h1 : (tab k)[j]? = none := Array.getElem?_eq_none (by omega)
    have h2 : (tab (k + 1))[j]? = none := Array.getElem?_eq_none (by simp [tab]; omega)
    rw [h1, h2, if_neg (by omega)]
theorem step_int (x : Nat) (h : x < 65536) : bits BinOp.xor IntKind.u16 ((x : Int) / 2) (IntKind.u16.wrap (33800 * bits BinOp.and IntKind.u16 (x : Int) 1)) = (Crc.step x : Nat) := by
  have e1 : bits BinOp.and IntKind.u16 (x : Int) 1 = ((x % 2 : Nat) : Int) := by
    have := u16_and_nat x 1 h (by omega)
    rw [Nat.and_one_is_mod] at this
    exact this
  rw [e1, IntKind.wrap_u16]
  have e2 : ((x : Int) / 2) = ((x / 2 : Nat) : Int) := by omega
  have e3 : (33800 * ((x % 2 : Nat) : Int)) % 65536 = ((33800 * (x % 2) : Nat) : Int) := by omega
  rw [e2, e3, u16_xor_nat _ _ (by omega) (by omega)]
  unfold Crc.step
  rcases Nat.mod_two_eq_zero_or_one x with hx | hx <;> simp [hx]

set_option maxHeartbeats 400000 in
theorem halfBytes_any (w : World) : Calls Try.prog 43 #[] w fun e w' => e = .returned (.agg (tab 16)) ∧ Below w.heap.size w w' := by
  go_enter Try.func43, Try.ntmps43
  go_wp2
  go_loopw [4] (fun c wr => ∃ k : Nat, k ≤ 16 ∧ c = .int .i64 k ∧ wr = (w.alloc (.cells (tab 0) 70)).alloc (.cells (tab k) 70)) (fun c _ => 16 - (intOf c).toNat)
  case atStart => exact ⟨0, by omega, rfl, by rw [tab_zero]⟩
  case round =>
    obtain ⟨k, hk, rfl, hwr⟩ := hrel
    by_cases hlt : k < 16
    · subst hwr
      have hc := tab_at k k hlt
      rw [if_neg (by omega)] at hc
      go_wp2
      go_loop [3, 9] (fun s c => ∃ j : Nat, j ≤ 4 ∧ c = .int .i64 j ∧ s = .int .u16 (Crc.steps j k : Nat)) (fun _ c => 4 - (intOf c).toNat)
      case atStart => exact ⟨0, by omega, rfl, rfl⟩
      case round =>
        obtain ⟨j, hj, rfl, rfl⟩ := hrel
        by_cases hlt : j < 4
        · have hs := step_int (Crc.steps j k) (Crc.steps_lt (by omega))
          have HS := Lib.hid hs
          clear hs
          go_wp2
          go_round
          case rel => exact ⟨j + 1, by omega, by go_num, by rw [HS.out, Crc.steps_succ]⟩
          case measure => simp [intOf]; omega
        · obtain rfl : j = 4 := by omega
          go_wp2
          go_roundw
          case rel => exact ⟨k + 1, by omega, by go_num, by rw [tab_set k ‹_›]⟩
          case measure => simp [intOf]; omega
    · obtain rfl : k = 16 := by omega
      subst hwr
      have T0 := Lib.hid tab_zero
      go_wp2_with (first | (refine wpList_load_row rfl 70 _ rfl (w.heap.size + 1) rfl 70 (tab 16) (0, 0) _ (heap_alloc2_new _ _ _) Try.underlying70 rfl (by kernel_rfl) ?_) | (refine wpList_store_row rfl 70 _ _ rfl w.heap.size (tab 16) rfl rfl 70 (tab 0) (heap_alloc2_old _ _ _) (by kernel_rfl) (by kernel_rfl) (by kernel_rfl) ?_))
      have hw0 : (((w.alloc (Obj.cells (tab 0) 70)).alloc (Obj.cells (tab 16) 70)).setRow w.heap.size (tab 16)).heap[w.heap.size]? = some (.cells (tab 16) 70 (0, 0)) := setRow_heap _ _ _ _ _ _ (heap_alloc2_old _ _ _)
      refine bodyPost_ret (v := .agg (tab 16)) (results_cell_row (p := 0) (ty := 70) Try.results43 _ _ w.heap.size 70 (tab 16) (0, 0) _ rfl hw0 Try.underlying70 rfl (by kernel_rfl)) rfl ⟨rfl, ?_⟩
      have hb : Below w.heap.size w ((w.alloc (Obj.cells (tab 0) 70)).alloc (Obj.cells (tab 16) 70)) := ((Below.refl _ w).alloc (Nat.le_refl _) _).alloc (by simp) _
      exact below_setRow hb (Nat.le_refl _) _
theorem half_int (y : Nat) (hy : y < 65536) : ∃ m q y2 : Nat, bits BinOp.and IntKind.u16 (y : Int) 15 = (m : Int) ∧ m < 16 ∧ (tab 16)[m]? = some (Value.int .u16 (q : Int)) ∧
    bits BinOp.xor IntKind.u16 ((y : Int) / 16) (q : Int) = (y2 : Int) ∧ y2 < 65536 ∧ y2 = Crc.steps 4 y := by
  refine ⟨y % 16, Crc.steps 4 (y % 16), Crc.steps 4 y, ?_, by omega, ?_, ?_, Crc.steps_lt hy, rfl⟩
  · have := u16_and_nat y 15 hy (by omega)
    rw [show (15 : Nat) = 2 ^ 4 - 1 from rfl, Nat.and_two_pow_sub_one_eq_mod] at this
    exact this
  · rw [tab_at 16 _ (by omega), if_pos (by omega)]
  · have e2 : ((y : Int) / 16) = ((y / 16 : Nat) : Int) := by omega
    rw [e2, u16_xor_nat _ _ (by omega) (Crc.steps_lt (by omega)), ← Crc.steps4]
theorem byte_int (c : Nat) (b : UInt8) (hc : c < 65536) : ∃ y : Nat, bits BinOp.xor IntKind.u16 (c : Int) (IntKind.u16.wrap (b.toNat : Int)) = (y : Int) ∧ y < 65536 ∧ Crc.steps 4 (Crc.steps 4 y) = Crc.byte c b.toNat := by
  have hb := b.toNat_lt
  refine ⟨c ^^^ b.toNat, ?_, Nat.xor_lt_two_pow (n := 16) (by omega) (by omega), ?_⟩
  · rw [IntKind.wrap_u16, show ((b.toNat : Int) % 65536) = ((b.toNat : Nat) : Int) by omega, u16_xor_nat _ _ hc (by omega)]
  · rw [← Crc.steps_add]; rfl
theorem sum_int (l : List UInt8) : bits BinOp.xor IntKind.u16 IntKind.u16.max (Crc.reg l : Int) = (Crc.sum l : Int) := by
  have h := Crc.reg_lt l
  have := u16_xor_nat 65535 (Crc.reg l) (by omega) h
  rw [Nat.xor_comm] at this
  exact this
set_option maxHeartbeats 400000 in
theorem of_any (s : ByteArray) (w : World) (hs0 : s.size ≤ maxLen) : Calls Try.prog 38 #[.string s] w fun e w' => e = .returned (.int .i64 (Crc.sum s.data.toList)) ∧ Below w.heap.size w w' := by
  have hs : s.size ≤ 9223372036854775807 := by unfold maxLen at hs0; omega
  clear hs0
  have tz := tab_zero
  have TZ := Lib.hid tz
  clear tz
  go_enter Try.func38, Try.ntmps38
  go_wp2_with (first | (go_at_call 43; refine (halfBytes_any _).mono ?_; rintro e w1 ⟨rfl, hb⟩) | (refine wpList_store_row rfl 70 _ _ rfl _ (tab 16) rfl rfl 70 _ (heap_alloc_new _ _) (by kernel_rfl) (by kernel_rfl) (by kernel_rfl) ?_; rw [World.setRow_alloc_new]))
  obtain ⟨T, hT⟩ : ∃ T, T = tab 16 := ⟨_, rfl⟩
  have HT := Lib.hid hT
  rw [← hT]
  clear hT
  go_loop [4, 5] (fun c i => ∃ k : Nat, k ≤ s.size ∧ i = .int .i64 k ∧ c = .int .u16 (Crc.reg (s.data.toList.take k) : Nat)) (fun _ i => s.size - (intOf i).toNat)
  case atStart => exact ⟨0, by omega, rfl, rfl⟩
  case round =>
    obtain ⟨k, hk, rfl, rfl⟩ := hrel
    have HR := Crc.reg_lt (s.data.toList.take k)
    by_cases hlt : k < s.size
    · obtain ⟨y, e1, hy, h1⟩ := byte_int (Crc.reg (s.data.toList.take k)) s[k] HR
      obtain ⟨m, q, y2, e2, hm, e3, e4, hy2, h2⟩ := half_int y hy
      obtain ⟨m2, q2, y3, e5, hm2, e6, e7, hy3, h3⟩ := half_int y2 hy2
      have HF : Hid (y3 = Crc.reg (s.data.toList.take (k + 1))) := by
        show y3 = _
        rw [take_snoc s k hlt, Crc.reg_snoc, ← h1, ← h2, ← h3]
      rw [← HT.out] at e3 e6
      clear h1 h2 h3
      go_wp2
      go_round
      case rel => exact ⟨k + 1, by omega, by go_num, by rw [HF.out]⟩
      case measure => simp [intOf]; omega
    · obtain rfl : k = s.size := by omega
      have e1 := sum_int s.data.toList
      have ht : s.data.toList.take s.size = s.data.toList := List.take_of_length_le (by simp)
      have HT1 := Lib.hid ht
      rw [← ht] at e1
      clear ht
      have hsl := Crc.sum_lt (s.data.toList.take s.size)
      go_wp2
      go_ret
      exact ⟨ret_int (by rw [wrap64_nat _ (by omega), HT1.out]), hb.alloc (by have := hb.size; omega) _⟩
end Go.Proofs.Ytnkkompmdngkgaa.F
