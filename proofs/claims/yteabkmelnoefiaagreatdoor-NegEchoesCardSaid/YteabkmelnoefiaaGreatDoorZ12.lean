/-
  The program's rules: numbers as texts and back; the rules of a link as values.
-/
import Derived.Test.YteabkmelnoefiaaGreatDoorZ02
import Derived.Test.YteabkmelnoefiaaGreatDoorZ06
import Derived.Test.YteabkmelnoefiaaGreatDoorZ05
import Derived.Deep.QuietTactic
import Derived.BigQuiet
import Derived.Deep.WholeRow
import Derived.Handy
import Derived.StillTailTactics
namespace Go.Proofs.YteabkmelnoefiaaGreatDoor.Pr
open Go.RowKit
abbrev nm := Go.Proofs.YteabkmelnoefiaaGreatDoor.Pl.nm
abbrev ptr (B o : Nat) : Value := .pointer (some ⟨B, o, none⟩)
/-- The rule of kind k of a link in block B, as an interface's value. -/
def tys (k : Nat) : TypeId := match k with | 0 => 131 | 1 => 132 | 2 => 131 | 3 => 135 | 4 => 138 | _ => 129
def rcv (B k : Nat) : Value := match k with
  | 0 => .agg #[ptr B 0, .int .i64 2] | 1 => .agg #[ptr B 1, .int .i64 4] | 2 => .agg #[ptr B 2, .int .i64 2] | 3 => .agg #[ptr B 3] | 4 => .agg #[ptr B 4] | _ => .agg #[ptr B 5, .int .i64 2]
def kind (k : Nat) : Int := match k with | 0 => 1 | 1 => 5 | 2 => 17 | 3 => 18 | 4 => 19 | _ => 23
def scs (B : Nat) : List Value := [.int .i64 1, .iface (tys 0) (rcv B 0), .int .i64 5, .iface (tys 1) (rcv B 1), .int .i64 17, .iface (tys 2) (rcv B 2), .int .i64 18, .iface (tys 3) (rcv B 3), .int .i64 19, .iface (tys 4) (rcv B 4), .int .i64 23, .iface (tys 5) (rcv B 5)]
theorem scs_one (B : Nat) : ∀ v ∈ scs B, v.oneCell' = true := by
  intro v hv
  simp only [scs, List.mem_cons, List.not_mem_nil, or_false] at hv
  rcases hv with rfl | rfl | rfl | rfl | rfl | rfl | rfl | rfl | rfl | rfl | rfl | rfl <;> rfl
theorem infoS : (Tryz.prog.info? 97).map (·.size) = some 12 := by kernel_rfl
def zside : List Value := [.int .i64 0, .nilIface, .int .i64 0, .nilIface, .int .i64 0, .nilIface, .int .i64 0, .nilIface, .int .i64 0, .nilIface, .int .i64 0, .nilIface]
theorem side_load {S B : Nat} {w : World} (h : Arr S w (scs B)) : (loadVar 97 ⟨S, 0, none⟩).run Tryz.prog w = .ok (.agg (scs B).toArray) w := h.load 97 6 95 Tryz.underlying97 infoS
section
variable {ops : Array Oper} {rest : List Oper} {o : Oper} {a : Act} {Q : Exit → Act → World → Prop} {w : World}
/-- A place of the row by value. -/
theorem wpList_place (hgd : o.guard = none) (x y : Operand) (ho : o.op = .index 97 x y) (B k : Nat) (hk : k < 6) (hx : a.eval x = .agg (scs B).toArray) (hy : a.eval y = .int .i64 (k : Int))
    (h : wpList Tryz.prog ops Q rest (a.put o.dst (.agg #[.int .i64 (kind k), .iface (tys k) (rcv B k)])) w) : wpList Tryz.prog ops Q (o :: rest) a w := by
  refine wpList_plain hgd fun _ hK => ?_
  unfold Oper.wp execOp
  have hag : (isAgg 95).run Tryz.prog w = .ok true w := Tryz.isAgg95 w
  have he : ((scs B).drop (k * 2)).take 2 = [.int .i64 (kind k), .iface (tys k) (rcv B k)] := by
    match k, hk with
    | 0, _ => rfl
    | 1, _ => rfl
    | 2, _ => rfl
    | 3, _ => rfl
    | 4, _ => rfl
    | 5, _ => rfl
  have hpart : (part 95 (scs B).toArray (k * 2)).run Tryz.prog w = .ok (.agg #[.int .i64 (kind k), .iface (tys k) (rcv B k)]) w := by
    unfold part
    simp [go_sem, hag]
    exact he
  have hr : (Instr.index 97 (.agg (scs B).toArray) (.int .i64 (k : Int))).run Tryz.prog w = .ok (.agg #[.int .i64 (kind k), .iface (tys k) (rcv B k)]) w := by
    simp [Instr.index, asIntOf, run_underlying (P := Tryz.prog) Tryz.underlying97, hpart]
    omega
  simp only [ho, hx, hy, Sem.run_bind, Sem.run_pure, hr, Result.andThen_ok]
  exact hK _ _ h
end
set_option maxHeartbeats 800000 in
set_option maxRecDepth 100000 in
theorem side_any (B : Nat) (w : World) : Calls Tryz.prog 48 #[ptr B 0] w fun e w' => e = .returned (.agg (scs B).toArray) ∧ Below w.heap.size w w' := by
  have A0 : Arr w.heap.size (w.alloc (.cells zside.toArray 97)).drew zside := Arr.new w zside 97
  obtain ⟨w', hs, h1, h2⟩ := A0.store (ds := scs B) 97 infoS rfl (scs_one B)
  have hb : Below w.heap.size w w' := below_of_grown (((Below.refl w.heap.size w).alloc (Nat.le_refl _) (.cells zside.toArray 97)).drew) h2 (Nat.le_refl _) rfl
  have HS := Lib.hid hs
  clear hs h2 A0
  go_enter Tryz.func48, Tryz.ntmps48
  go_wp2_with fail
  go_still_tail 40, (by kernel_rfl)
  change wpList _ _ _ _ _ (World.drew _)
  refine wpList_store rfl _ _ _ rfl ⟨w.heap.size, 0, none⟩ _ w' rfl rfl HS.out ?_
  go_wp2_with fail
  have m0 := h1.cell 0 _ rfl
  have m1 := h1.cell 1 _ rfl
  have m2 := h1.cell 2 _ rfl
  have m3 := h1.cell 3 _ rfl
  have m4 := h1.cell 4 _ rfl
  have m5 := h1.cell 5 _ rfl
  have m6 := h1.cell 6 _ rfl
  have m7 := h1.cell 7 _ rfl
  have m8 := h1.cell 8 _ rfl
  have m9 := h1.cell 9 _ rfl
  have m10 := h1.cell 10 _ rfl
  have m11 := h1.cell 11 _ rfl
  exact bodyPost_ret (v := .agg (scs B).toArray) (by simp [results, Tryz.results48, go_sem, m0, m1, m2, m3, m4, m5, m6, m7, m8, m9, m10, m11, scs]) rfl ⟨rfl, hb⟩
theorem is_unit (x : Int) (w : World) : Calls Tryz.prog 166 #[.int .i64 x] w fun e w' => e = .returned (.bool (Pol.unit x)) ∧ w = w' := by
  have HU : Hid (Pol.unit x = (decide (128 ≤ x) && decide (x ≤ 1500))) := Lib.hid rfl
  by_cases h1 : 128 ≤ x
  · by_cases h2 : x ≤ 1500
    · have hu : Hid (Pol.unit x = true) := Lib.hid (by rw [HU.out, decide_eq_true h1, decide_eq_true h2]; rfl)
      go_enter Tryz.func166, Tryz.ntmps166
      go_wp2_with fail
      go_ret
      exact ⟨ret_bool hu.out.symm, rfl⟩
    · have hu : Hid (Pol.unit x = false) := Lib.hid (by rw [HU.out, decide_eq_false h2, Bool.and_false])
      have q : decide (x ≤ 1500) = false := decide_eq_false h2
      go_enter Tryz.func166, Tryz.ntmps166
      go_wp2_with fail
      go_ret
      exact ⟨ret_bool hu.out.symm, rfl⟩
  · have hu : Hid (Pol.unit x = false) := Lib.hid (by rw [HU.out, decide_eq_false h1]; rfl)
    have q : decide (128 ≤ x) = false := decide_eq_false h1
    go_enter Tryz.func166, Tryz.ntmps166
    go_wp2_with fail
    go_ret
    exact ⟨ret_bool hu.out.symm, rfl⟩
set_option maxHeartbeats 800000 in
theorem value_walk (s : ByteArray) (w : World) (hs : s.size ≤ 140737488355328) :
    Calls Tryz.prog 162 #[.string s] w fun e w' => e = .returned (.int .i64 (nm s.data.toList)) ∧ w = w' := by
  go_enter Tryz.func162, Tryz.ntmps162
  go_wp2_with fail
  go_loopw [3, 7] (fun x i wr => ∃ k : Nat, k ≤ s.size ∧ i = .int .i64 (k : Int) ∧ x = .int .i64 (nm (s.data.toList.take k)) ∧ w = wr) (fun _ i _ => s.size - (intOf i).toNat)
  case atStart => exact ⟨0, by omega, rfl, rfl, rfl⟩
  case round =>
    obtain ⟨k, hk, rfl, rfl, rfl⟩ := hrel
    by_cases hlt : k < s.size
    · have HT : Hid (nm (s.data.toList.take (k + 1)) = Pl.more (nm (s.data.toList.take k)) (s[k].toNat : Int)) := Lib.hid (by rw [take_snoc s k hlt]; exact Pl.nm_snoc _ _)
      generalize nm (s.data.toList.take k) = x at *
      go_wp2_with fail
      go_roundw
      case rel => exact ⟨k + 1, by omega, by go_num, by rw [HT.out]; rfl, trivial⟩
      case measure => simp [intOf]; omega
    · obtain rfl : k = s.size := by omega
      rw [List.take_of_length_le (show s.data.toList.length ≤ s.size by simp)]
      go_wp2_with fail
      go_ret
      exact ⟨rfl, rfl⟩
theorem value_any (l : List UInt8) (w : World) (hs : l.length ≤ 140737488355328) :
    Calls Tryz.prog 162 #[.string ⟨l.toArray⟩] w fun e w' => e = .returned (.int .i64 (nm l)) ∧ w = w' :=
  value_walk ⟨l.toArray⟩ w (by rw [sz]; exact hs)
theorem i64_shr (n j : Nat) : (n : Int) / (2 : Int) ^ (8 * j) = ((n / 256 ^ j : Nat) : Int) := by
  have e : (2 : Nat) ^ (8 * j) = 256 ^ j := by rw [Nat.pow_mul]
  rw [← e]
  simp
set_option maxRecDepth 100000 in
set_option maxHeartbeats 800000 in
theorem text_any (p : Value) (n k : Nat) (w : World) (hk : k ≤ 7) :
    Calls Tryz.prog 161 #[.agg #[p, .int .i64 (k : Int)], .int .i64 (n : Int)] w fun e w' => e = .returned (.string ⟨(Pol.be k n).toArray⟩) ∧ Below w.heap.size w w' := by
  have MK := fun W => make_bytes k (by omega) W
  have HB := Lib.hid (((Below.refl w.heap.size w).alloc (Nat.le_refl _) (.cells #[p, .int .i64 (k : Int)] 129)).alloc (by simp) (.cells (Lib.byteCells (zeros k)).toArray 5))
  have HH : Hid (Holds (w.heap.size + 1) ((w.alloc (.cells #[p, .int .i64 (k : Int)] 129)).alloc (.cells (Lib.byteCells (zeros k)).toArray 5)) (zeros k)) := Lib.hid (by
    have h := Pl.holds_laid (w.alloc (.cells #[p, .int .i64 (k : Int)] 129)) k
    simpa using h)
  have HX : Hid (Box w.heap.size ((w.alloc (.cells #[p, .int .i64 (k : Int)] 129)).alloc (.cells (Lib.byteCells (zeros k)).toArray 5)) [p, .int .i64 (k : Int)]) := Lib.hid ((Box.new w [p, .int .i64 (k : Int)] _).alloc _)
  go_enter Tryz.func161, Tryz.ntmps161
  go_wp2_with fail
  generalize ((w.alloc (.cells #[p, .int .i64 (k : Int)] 129)).alloc (.cells (Lib.byteCells (zeros k)).toArray 5)) = w2 at *
  go_loopw [12] (fun i wr => ∃ (m j : Nat), m + j = k ∧ i = .int .i64 (j : Int) ∧ Holds (w.heap.size + 1) wr (zeros m ++ Pol.be j n) ∧ Box w.heap.size wr [p, .int .i64 (k : Int)] ∧ Below w.heap.size w wr) (fun i _ => k - (intOf i).toNat)
  case atStart => exact ⟨k, 0, by omega, rfl, by rw [show Pol.be 0 n = [] from rfl, List.append_nil]; exact HH.out, HX.out, HB.out⟩
  case round =>
    clear HH HB MK HX
    obtain ⟨m, j, hp, rfl, hh, hx, hb⟩ := hrel
    have HH := Lib.hid hh
    have HB := Lib.hid hb
    have HX := Lib.hid hx
    clear hh hb hx
    have hl : (zeros m ++ Pol.be j n).length = k := by rw [List.length_append, Pol.be_length]; simp [zeros]; exact hp
    cases m with
    | zero =>
      have hcv := HH.out.back k
      rw [hl] at hcv
      obtain rfl : j = k := by omega
      rw [show zeros 0 ++ Pol.be j n = Pol.be j n from rfl] at hcv
      clear hl HH hp
      go_wp2_with fail
      go_ret
      exact ⟨rfl, HB.out⟩
    | succ q =>
      obtain ⟨c0, fz⟩ := HH.out q (by omega)
      have ix := Pl.indexB0 (w.heap.size + 1) k k q (by omega)
      have k1 := HX.out 1 _ rfl
      have e1 : (k : Int) - 1 - (j : Int) = (q : Int) := by omega
      have hv : (n : Int) / 2 ^ (8 * j) % 256 = ((UInt8.ofNat (n / 256 ^ j)).toNat : Int) := by rw [i64_shr]; simp
      have hs := HH.out.set q (by omega) (UInt8.ofNat (n / 256 ^ j))
      rw [Pl.zeros_set] at hs
      have HS : Hid (Holds (w.heap.size + 1) (wr.setCell ⟨w.heap.size + 1, q, none⟩ (.int .u8 ((UInt8.ofNat (n / 256 ^ j)).toNat : Int))) (zeros q ++ Pol.be (j + 1) n)) := Lib.hid hs
      have HP := Lib.hid hp
      clear hs hl hp
      go_wp2_with fail
      go_region
      rw [hv]
      go_wp2_with fail
      go_roundw
      case rel => exact ⟨q, j + 1, by have := HP.out; omega, by go_num, HS.out, Box.drew (HX.out.setCell (p := ⟨w.heap.size + 1, q, none⟩) (by simp) _), (HB.out.setCell (p := ⟨w.heap.size + 1, q, none⟩) (by simp) _).drew⟩
      case measure => simp [intOf]; have := HP.out; omega
end Go.Proofs.YteabkmelnoefiaaGreatDoor.Pr
