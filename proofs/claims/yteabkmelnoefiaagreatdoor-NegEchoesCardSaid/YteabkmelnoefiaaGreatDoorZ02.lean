/-
  Rows of bytes of a call's own: what was just laid, bytes pushed behind, the row as a string.
  The laws' own helper: a number, whatever its type is called.
  A block that holds so many cells: a struct in a box.
  The document's own judge of options: which links may be.
  General: a text as bytes that may be written, and back; so many new bytes.
  Numbers of a few bytes: as a machine reckons them; so many new bytes.
  Two bytes as one number, the high one first: by shift and or, by times and plus.
-/
import Derived.Test.YteabkmelnoefiaaGreatDoorZ01
import Derived.Test.YteabkmelnoefiaaGreatDoorProg
import Derived.WalkKit
import Derived.WalkSpells
import Derived.WalkLawsBesides
import Derived.KernelRfl
import Derived.Laws.CopyOwn
import Derived.Laws.IdiomStrings
import Derived.Laws.BytesString
import Derived.Lib.Builder
import Derived.Lib.Hide
import Derived.Outline
import Derived.IntWalk
import Derived.Below
import Derived.Lib.Strings
import Derived.Deep.QuietTactic
import Derived.BigQuiet
import Derived.Deep.WholeRow
import Derived.Laws.MakeOwn
namespace Go.Proofs.YteabkmelnoefiaaGreatDoor
open Go.RowKit
theorem ret_bool {a b : Bool} (h : a = b) : Ending.returned (.bool a) = .returned (.bool b) := by rw [h]
theorem ret_str {a b : ByteArray} (h : a = b) : Ending.returned (.string a) = .returned (.string b) := by rw [h]
theorem ret0 {a b : Bool} (h : a = b) : Value.bool a = Value.bool b := by rw [h]
theorem bel2 {a b c : World} (h : Below a.heap.size a b) (k : Below b.heap.size b c) : Below a.heap.size a c := h.trans (k.mono h.size)
theorem infoB : (Tryz.prog.info? 5).map (fun i => (i.zero, i.size, i.bytes)) = some (some (.int .u8 0), 1, 1) := by kernel_rfl
theorem take_snoc (s : ByteArray) (k : Nat) (h : k < s.size) : s.data.toList.take (k + 1) = s.data.toList.take k ++ [s[k]] := by
  rw [List.take_succ_eq_append_getElem (by simpa using h)]; rfl
theorem at_mem (s : ByteArray) (k : Nat) (h : k < s.size) : s[k] ∈ s.data.toList := by
  have e := take_snoc s k h
  have h2 : s[k] ∈ s.data.toList.take (k + 1) := by rw [e]; simp
  exact List.mem_of_mem_take h2
theorem mem_take_end (s : ByteArray) (c : UInt8) : c ∈ s.data.toList.take s.size ↔ c ∈ s.data.toList := by rw [List.take_of_length_le (by simp)]
theorem byte_eq (b c : UInt8) (h : b = c) : ((b.toNat : Int) == (c.toNat : Int)) = true := by subst h; simp
theorem byte_ne (b c : UInt8) (h : b ≠ c) : ((b.toNat : Int) == (c.toNat : Int)) = false := by
  rw [beq_eq_false_iff_ne]; intro e; exact h (UInt8.toNat_inj.1 (by omega))
theorem bc_snoc (l : List UInt8) (b : UInt8) : Lib.byteCells l ++ [.int .u8 (b.toNat : Int)] = Lib.byteCells (l ++ [b]) := by simp [Lib.byteCells]
theorem bc_append (l r : List UInt8) : Lib.byteCells (l ++ r) = Lib.byteCells l ++ Lib.byteCells r := by simp [Lib.byteCells]
theorem bc_length (l : List UInt8) : (Lib.byteCells l).length = l.length := by simp [Lib.byteCells]
/-- The cells of a block that was just laid. -/
theorem new_cells (W : World) (cs : List Value) (e : TypeId) (j : Nat) (u : Value) (h : cs[j]? = some u) : (W.alloc (.cells cs.toArray e)).cell? ((⟨W.heap.size, 0, none⟩ : Addr).add j) = some u := by
  have e0 : (⟨W.heap.size, 0, none⟩ : Addr).add j = ⟨W.heap.size, j, none⟩ := by unfold Addr.add; split <;> simp_all
  rw [e0, World.cell?_alloc_mark]
  simpa using h
theorem byte_of (a : Int) : ∃ p : UInt8, (p.toNat : Int) = a % 256 := ⟨UInt8.ofNat (a % 256).toNat, by simp; omega⟩
/-- A new slice of bytes as a string. -/
theorem conv_new (w : World) (l : List UInt8) (cells : Array Value) (h : cells = (Lib.byteCells l).toArray) :
    (convert 113 9 (.slice (some ⟨w.heap.size, 0, none⟩) l.length l.length)).run Tryz.prog (w.alloc (.cells cells 5)) = .ok (.string ⟨l.toArray⟩) (w.alloc (.cells cells 5)) := by
  subst h
  refine run_convert_bytes_back _ 113 9 5 _ _ l Tryz.underlying113 Tryz.underlying5 Tryz.underlying9 ?_
  intro j hj
  exact new_cells _ _ _ _ _ (by simp [Lib.byteCells, hj])
/-- One text behind another. -/
theorem cat (l r : List UInt8) : ({ data := l.toArray } : ByteArray) ++ { data := r.toArray } = { data := (l ++ r).toArray } := by apply ByteArray.ext; simp [ByteArray.data_append]
theorem sz (l : List UInt8) : (ByteArray.mk l.toArray).size = l.length := by simp [ByteArray.size]
/-- A row of bytes of the call's own, as a string. -/
theorem own_text {W : World} {B : Nat} {v : Value} {l : List UInt8} (h : W.ownsRow B 5 1 v l.length (Lib.byteCells l)) : (convert 113 9 v).run Tryz.prog W = .ok (.string ⟨l.toArray⟩) W := by
  have hc := fun g hg => h.cells (g := g) hg
  rcases h.2 with ⟨rfl, h0⟩ | ⟨g, cap, cur, rfl, _⟩
  · obtain rfl : l = [] := List.length_eq_zero_iff.1 h0
    rw [run_convert_bytes_string W 113 9 5 none 0 0 Tryz.underlying113 Tryz.underlying5 Tryz.underlying9]
    simp [Conv.bytesToString]
    rfl
  · refine run_convert_bytes_back W 113 9 5 ⟨g, 0, none⟩ cap l Tryz.underlying113 Tryz.underlying5 Tryz.underlying9 ?_
    intro j hj
    exact hc g rfl j _ (by simp [Lib.byteCells, hj])
/-- 'v' is a slice of bytes of the call's own (the call began in 'w'), it holds 'l'; nothing that was there has changed. -/
def Owns (w wr : World) (v : Value) (l : List UInt8) : Prop := wr.ownsRow w.heap.size 5 1 v l.length (Lib.byteCells l) ∧ Below w.heap.size w wr
theorem Owns.nil (w : World) : Owns w w (.slice none 0 0) [] := ⟨World.ownsRow_nil _ _ _ _, Below.refl _ _⟩
theorem Owns.text {w wr : World} {v : Value} {l : List UInt8} (h : Owns w wr v l) : (convert 113 9 v).run Tryz.prog wr = .ok (.string ⟨l.toArray⟩) wr := own_text h.1
/-- A few bytes, just laid in a block, pushed behind a row of the call's own: the arm is
    (at_builtin; refine wp_push rfl _ _ rfl w l r hown rfl rfl hlen ?_; intro v' w2 hown2). -/
theorem wp_push {ops : Array Oper} {rest : List Oper} {o : Oper} {a : Act} {Q : Exit → Act → World → Prop} (hgd : o.guard = none) (sl x : Operand)
    (ho : o.op = .call { callee := .builtin .append, args := #[sl, x], argTypes := #[113, 113] })
    {W w : World} (l r : List UInt8) {v : Value} (hown : Owns w W v l)
    (hs : a.eval sl = v) (hx : a.eval x = .slice (some ⟨W.heap.size, 0, none⟩) r.length r.length) (hl : l.length + r.length ≤ 1073741824)
    (h : ∀ v' w', Owns w w' v' (l ++ r) → wpList Tryz.prog ops Q rest (a.put o.dst v') w') :
    wpList Tryz.prog ops Q (o :: rest) a (W.alloc (.cells (Lib.byteCells r).toArray 5)) := by
  obtain ⟨i0, hi, hz0, hz1, hz2⟩ := info_parts infoB
  obtain ⟨hown, hb⟩ := hown
  have hsz := hb.size
  refine wpList_append_own _ hgd sl x 113 ho w.heap.size 5 i0 (.int .u8 0) 1 1 Tryz.underlying113 hi hz0 hz1 hz2 rfl (by decide) v l.length (Lib.byteCells l) hs (hown.alloc _) ⟨W.heap.size, 0, none⟩ r.length r.length (Lib.byteCells r) hx (by simp [Lib.byteCells]) ?_ ?_ ?_ ?_ ?_ ?_
  · exact new_cells W _ _
  · intro u hu
    simp only [Lib.byteCells, List.mem_map] at hu
    obtain ⟨b, _, rfl⟩ := hu
    rfl
  · unfold maxLen; omega
  · omega
  · simp; omega
  · intro v' w' hown' hgrow _
    refine h v' w' ⟨?_, ?_⟩
    · rw [bc_append, List.length_append]; exact hown'
    · exact (hb.alloc hsz _).grown hgrow (by simp; omega) (fun k hk => (hown.lt k hk).1)
theorem wrap64_nat (n : Nat) (h : n < 65536) : wrap64 (n : Int) = (n : Int) := IntWalk.wrap64_in _ ⟨by omega, by omega⟩
theorem ret_int {k : IntKind} {a b : Int} (h : a = b) : Ending.returned (.int k a) = .returned (.int k b) := by rw [h]
theorem ofInt_i64 (a : Nat) (ha : a < 9223372036854775808) : (BitVec.ofInt 64 (a : Int)).toNat = a := by
  rw [BitVec.ofInt_natCast, BitVec.toNat_ofNat]; exact Nat.mod_eq_of_lt (by omega)
theorem i64_wrap (n : Nat) (h : n < 9223372036854775808) : IntKind.i64.wrap (n : Int) = (n : Int) := IntWalk.i64_in _ (by omega)
theorem i64_and_nat (a b : Nat) (ha : a < 9223372036854775808) (hb : b < 9223372036854775808) : bits .and .i64 (a : Int) (b : Int) = ((a &&& b : Nat) : Int) := by
  have hx : a &&& b < 2 ^ 63 := Nat.and_lt_two_pow _ (by omega)
  show IntKind.i64.wrap ((BitVec.ofInt 64 (a : Int) &&& BitVec.ofInt 64 (b : Int)).toNat : Int) = _
  rw [BitVec.toNat_and, ofInt_i64 a ha, ofInt_i64 b hb, i64_wrap _ (by omega)]
theorem i64_xor_nat (a b : Nat) (ha : a < 9223372036854775808) (hb : b < 9223372036854775808) : bits .xor .i64 (a : Int) (b : Int) = ((a ^^^ b : Nat) : Int) := by
  have hx : a ^^^ b < 2 ^ 63 := Nat.xor_lt_two_pow (by omega) (by omega)
  show IntKind.i64.wrap ((BitVec.ofInt 64 (a : Int) ^^^ BitVec.ofInt 64 (b : Int)).toNat : Int) = _
  rw [BitVec.toNat_xor, ofInt_i64 a ha, ofInt_i64 b hb, i64_wrap _ (by omega)]
theorem bytes_append (s : ByteArray) (l : List UInt8) : s ++ ByteArray.mk l.toArray = ⟨(s.data.toList ++ l).toArray⟩ := by
  apply ByteArray.ext
  simp [ByteArray.data_append]
theorem and255 (n : Nat) (h : n < 65536) : bits BinOp.and IntKind.i64 (n : Int) 255 = ((n % 256 : Nat) : Int) := by
  have := i64_and_nat n 255 (by omega) (by omega)
  rw [show (255 : Nat) = 2 ^ 8 - 1 from rfl, Nat.and_two_pow_sub_one_eq_mod] at this
  exact this
theorem ret_pair {a b : ByteArray} {k : IntKind} {n : Int} (h : a = b) : Ending.returned (.tuple #[.string a, .int k n]) = .returned (.tuple #[.string b, .int k n]) := by rw [h]
theorem i64_and255 (n : Int) : bits BinOp.and IntKind.i64 n 255 = n % 256 := by
  have e : (BitVec.ofInt 64 (255 : Int)).toNat = 255 := ofInt_i64 255 (by omega)
  show IntKind.i64.wrap ((BitVec.ofInt 64 n &&& BitVec.ofInt 64 255).toNat : Int) = _
  rw [BitVec.toNat_and, e, show (255 : Nat) = 2 ^ 8 - 1 from rfl, Nat.and_two_pow_sub_one_eq_mod, BitVec.toNat_ofInt, i64_wrap _ (by omega)]
  omega
theorem bcell {W w1 : World} (hb : Below W.heap.size W w1) : (∀ b o, b < W.heap.size → w1.cell? ⟨b, o, none⟩ = W.cell? ⟨b, o, none⟩) ∧ (∀ b o, b < W.heap.size → w1.frozen? ⟨b, o, none⟩ = W.frozen? ⟨b, o, none⟩) :=
  ⟨fun b o h => hb.cell (p := ⟨b, o, none⟩) h, fun b o h => hb.frozen (p := ⟨b, o, none⟩) h⟩
theorem ret_vs {v : Value} {a b : ByteArray} (h : a = b) : Ending.returned (.tuple #[v, .string a]) = .returned (.tuple #[v, .string b]) := by rw [h]
end Go.Proofs.YteabkmelnoefiaaGreatDoor
namespace Go.Proofs.YteabkmelnoefiaaGreatDoor
open Go.RowKit
theorem num_any (n : Int) (w : World) : Calls Tryz.prog 14 #[.int .i64 n] w fun e w' => e = .returned (.int .i64 n) ∧ w = w' := by
  go_enter Tryz.func14, Tryz.ntmps14
  go_wp2
  go_ret
  exact ⟨rfl, rfl⟩
end Go.Proofs.YteabkmelnoefiaaGreatDoor
namespace Go.Proofs.YteabkmelnoefiaaGreatDoor
open Go.RowKit
theorem box_add (b j : Nat) : (⟨b, 0, none⟩ : Addr).add j = ⟨b, j, none⟩ := by unfold Addr.add; split <;> simp_all
/-- Block 'B' holds these cells. -/
def Box (B : Nat) (a : World) (cs : List Value) : Prop := ∀ j u, cs[j]? = some u → a.cell? ⟨B, j, none⟩ = some u
theorem Box.new (w : World) (cs : List Value) (t : TypeId) : Box w.heap.size (w.alloc (.cells cs.toArray t)) cs := fun j u h => by
  have := new_cells w cs t j u h
  rwa [box_add] at this
theorem Box.at {B n : Nat} {a : World} {cs : List Value} (h : Box B a cs) (e : B = n) : Box n a cs := e ▸ h
theorem Box.lt {B : Nat} {a : World} {c : Value} {cs : List Value} (h : Box B a (c :: cs)) : B < a.heap.size := block_lt_of_cell (h 0 c rfl)
theorem Box.below {B : Nat} {a b : World} {cs : List Value} (h : Box B a cs) (k : Below a.heap.size a b) : Box B b cs := fun j u hj =>
  (k.cell (block_lt_of_cell (h j u hj))).trans (h j u hj)
theorem Box.alloc {B : Nat} {a : World} {cs : List Value} (h : Box B a cs) (o : Obj) : Box B (a.alloc o) cs := h.below ((Below.refl _ a).alloc (Nat.le_refl _) o)
theorem Box.drew {B : Nat} {a : World} {cs : List Value} (h : Box B a cs) : Box B a.drew cs := h
/-- Four cells of a box, as a region's condition. -/
theorem box4_kept {B : Nat} {w a b : World} {x y z u : Value} (h : a.cell? ⟨B, 0, none⟩ = some x ∧ a.cell? ⟨B, 1, none⟩ = some y ∧ a.cell? ⟨B, 2, none⟩ = some z ∧ a.cell? ⟨B, 3, none⟩ = some u ∧ B < a.heap.size ∧ Below w.heap.size w a) (k : Below a.heap.size a b) :
    b.cell? ⟨B, 0, none⟩ = some x ∧ b.cell? ⟨B, 1, none⟩ = some y ∧ b.cell? ⟨B, 2, none⟩ = some z ∧ b.cell? ⟨B, 3, none⟩ = some u ∧ B < b.heap.size ∧ Below w.heap.size w b := by
  obtain ⟨h1, h2, h3, h4, h5, h6⟩ := h
  exact ⟨(k.cell (p := ⟨B, 0, none⟩) h5).trans h1, (k.cell (p := ⟨B, 1, none⟩) h5).trans h2, (k.cell (p := ⟨B, 2, none⟩) h5).trans h3, (k.cell (p := ⟨B, 3, none⟩) h5).trans h4, Nat.lt_of_lt_of_le h5 k.size, bel2 h6 k⟩
theorem box4_drew {B : Nat} {w a : World} {x y z u : Value} (h : a.cell? ⟨B, 0, none⟩ = some x ∧ a.cell? ⟨B, 1, none⟩ = some y ∧ a.cell? ⟨B, 2, none⟩ = some z ∧ a.cell? ⟨B, 3, none⟩ = some u ∧ B < a.heap.size ∧ Below w.heap.size w a) :
    a.drew.cell? ⟨B, 0, none⟩ = some x ∧ a.drew.cell? ⟨B, 1, none⟩ = some y ∧ a.drew.cell? ⟨B, 2, none⟩ = some z ∧ a.drew.cell? ⟨B, 3, none⟩ = some u ∧ B < a.drew.heap.size ∧ Below w.heap.size w a.drew := ⟨h.1, h.2.1, h.2.2.1, h.2.2.2.1, h.2.2.2.2.1, h.2.2.2.2.2.drew⟩
theorem box4_of {B : Nat} {w a : World} {x y z u : Value} (h : Box B a [x, y, z, u]) (k : Below w.heap.size w a) :
    a.cell? ⟨B, 0, none⟩ = some x ∧ a.cell? ⟨B, 1, none⟩ = some y ∧ a.cell? ⟨B, 2, none⟩ = some z ∧ a.cell? ⟨B, 3, none⟩ = some u ∧ B < a.heap.size ∧ Below w.heap.size w a := ⟨h 0 _ rfl, h 1 _ rfl, h 2 _ rfl, h 3 _ rfl, h.lt, k⟩
end Go.Proofs.YteabkmelnoefiaaGreatDoor
namespace Go.Proofs.YteabkmelnoefiaaGreatDoor.Pl
open Go.RowKit
/-- A link as a value. -/
def lv (l : Pol.Lk) : Value := .agg #[.int .i64 l.mru, .int .i64 l.magic, .int .i64 l.mrru, .bool l.short, .string ⟨l.disc.toArray⟩, .int .i64 l.num]
theorem unit_any (x : Int) (w : World) : Calls Tryz.prog 72 #[.int .i64 x] w fun e w' => e = .returned (.bool (Pol.unit x)) ∧ w = w' := by
  have HU : Hid (Pol.unit x = (decide (128 ≤ x) && decide (x ≤ 1500))) := Lib.hid rfl
  by_cases h1 : 128 ≤ x
  · by_cases h2 : x ≤ 1500
    · have hu : Hid (Pol.unit x = true) := Lib.hid (by rw [HU.out, decide_eq_true h1, decide_eq_true h2]; rfl)
      go_enter Tryz.func72, Tryz.ntmps72
      go_wp2_with fail
      go_ret
      exact ⟨ret_bool hu.out.symm, rfl⟩
    · have hu : Hid (Pol.unit x = false) := Lib.hid (by rw [HU.out, decide_eq_false h2, Bool.and_false])
      have q : decide (x ≤ 1500) = false := decide_eq_false h2
      go_enter Tryz.func72, Tryz.ntmps72
      go_wp2_with fail
      go_ret
      exact ⟨ret_bool hu.out.symm, rfl⟩
  · have hu : Hid (Pol.unit x = false) := Lib.hid (by rw [HU.out, decide_eq_false h1]; rfl)
    have q : decide (128 ≤ x) = false := decide_eq_false h1
    go_enter Tryz.func72, Tryz.ntmps72
    go_wp2_with fail
    go_ret
    exact ⟨ret_bool hu.out.symm, rfl⟩
theorem size_any (x : Int) (w : World) : Calls Tryz.prog 47 #[.int .i64 x] w fun e w' => e = .returned (.bool (Pol.size x)) ∧ w = w' := by
  have U := Lib.hid fun W => unit_any x W
  have HU : Hid (Pol.size x = (x == 0 || Pol.unit x)) := Lib.hid rfl
  generalize Pol.unit x = u at *
  by_cases h0 : x = 0
  · have hu : Hid (Pol.size x = true) := Lib.hid (by rw [HU.out, h0]; rfl)
    have q : (x == 0) = true := by rw [beq_iff_eq]; exact h0
    go_enter Tryz.func47, Tryz.ntmps47
    go_wp2_with (refine (U.out _).mono ?_; rintro e w1 ⟨rfl, rfl⟩)
    go_ret
    exact ⟨ret_bool hu.out.symm, rfl⟩
  · have q : (x == 0) = false := by rw [beq_eq_false_iff_ne]; exact h0
    have hu : Hid (Pol.size x = u) := Lib.hid (by rw [HU.out, q]; rfl)
    go_enter Tryz.func47, Tryz.ntmps47
    go_wp2_with (refine (U.out _).mono ?_; rintro e w1 ⟨rfl, rfl⟩)
    go_ret
    exact ⟨ret_bool hu.out.symm, rfl⟩
set_option maxHeartbeats 1600000 in
theorem may_walk (a b c n : Int) (s r : Bool) (d : List UInt8) (b1 b2 : Bool) (w : World)
    (h : (b1 = false ∧ r = false) ∨ (b1 = true ∧ b2 = false ∧ r = false) ∨ (b1 = true ∧ b2 = true ∧ b < 0 ∧ r = false) ∨ (b1 = true ∧ b2 = true ∧ 0 ≤ b ∧ 4294967295 < b ∧ r = false) ∨ (b1 = true ∧ b2 = true ∧ 0 ≤ b ∧ b ≤ 4294967295 ∧ 20 < d.length ∧ r = false) ∨
      (b1 = true ∧ b2 = true ∧ 0 ≤ b ∧ b ≤ 4294967295 ∧ d.length ≤ 20 ∧ n < 0 ∧ r = false) ∨ (b1 = true ∧ b2 = true ∧ 0 ≤ b ∧ b ≤ 4294967295 ∧ d.length ≤ 20 ∧ 0 ≤ n ∧ r = decide (n ≤ 65535)))
    (S1 : Hid (∀ W, Calls Tryz.prog 47 #[.int .i64 a] W fun e w' => e = .returned (.bool b1) ∧ W = w'))
    (S2 : Hid (∀ W, Calls Tryz.prog 47 #[.int .i64 c] W fun e w' => e = .returned (.bool b2) ∧ W = w')) :
    Calls Tryz.prog 28 #[.agg #[.int .i64 a, .int .i64 b, .int .i64 c, .bool s, .string ⟨d.toArray⟩, .int .i64 n]] w fun e w' => e = .returned (.bool r) ∧ Below w.heap.size w w' := by
  have HB := Lib.hid ((Below.refl w.heap.size w).alloc (Nat.le_refl _) (.cells #[.int .i64 a, .int .i64 b, .int .i64 c, .bool s, .string ⟨d.toArray⟩, .int .i64 n] 23))
  have z := sz d
  rcases h with ⟨rfl, rfl⟩ | ⟨rfl, rfl, rfl⟩ | ⟨rfl, rfl, h1, rfl⟩ | ⟨rfl, rfl, h1, h2, rfl⟩ | ⟨rfl, rfl, h1, h2, h3, rfl⟩ | ⟨rfl, rfl, h1, h2, h3, h4, rfl⟩ | ⟨rfl, rfl, h1, h2, h3, h4, rfl⟩
  all_goals try have p1 : decide (0 ≤ b) = false := decide_eq_false (by omega)
  all_goals try have p2 : decide (b ≤ 4294967295) = false := decide_eq_false (by omega)
  all_goals try have p3 : decide ((d.length : Int) ≤ 20) = false := decide_eq_false (by omega)
  all_goals try have p4 : decide (0 ≤ n) = false := decide_eq_false (by omega)
  all_goals go_enter Tryz.func28, Tryz.ntmps28
  all_goals go_wp2_with (first | (go_at_call 47; with_reducible refine (S1.out _).mono ?_; rintro e w1 ⟨rfl, rfl⟩) | (go_at_call 47; with_reducible refine (S2.out _).mono ?_; rintro e w1 ⟨rfl, rfl⟩))
  all_goals go_ret
  all_goals exact ⟨rfl, HB.out⟩
theorem may_any (l : Pol.Lk) (w : World) : Calls Tryz.prog 28 #[lv l] w fun e w' => e = .returned (.bool (Pol.may l)) ∧ Below w.heap.size w w' := by
  obtain ⟨a, b, c, s, d, n⟩ := l
  refine may_walk a b c n s (Pol.may ⟨a, b, c, s, d, n⟩) d (Pol.size a) (Pol.size c) w ?_ (Lib.hid fun W => size_any a W) (Lib.hid fun W => size_any c W)
  have e : Pol.may ⟨a, b, c, s, d, n⟩ = (Pol.size a && Pol.size c && decide (0 ≤ b) && decide (b ≤ 4294967295) && decide (d.length ≤ 20) && decide (0 ≤ n) && decide (n ≤ 65535)) := rfl
  rw [e]
  cases Pol.size a <;> cases Pol.size c
  · exact .inl ⟨rfl, rfl⟩
  · exact .inl ⟨rfl, rfl⟩
  · exact .inr (.inl ⟨rfl, rfl, rfl⟩)
  · by_cases h1 : 0 ≤ b
    · by_cases h2 : b ≤ 4294967295
      · by_cases h3 : d.length ≤ 20
        · by_cases h4 : 0 ≤ n
          · exact .inr (.inr (.inr (.inr (.inr (.inr ⟨rfl, rfl, h1, h2, h3, h4, by simp [h1, h2, h3, h4]⟩)))))
          · exact .inr (.inr (.inr (.inr (.inr (.inl ⟨rfl, rfl, h1, h2, h3, by omega, by simp [h4]⟩)))))
        · exact .inr (.inr (.inr (.inr (.inl ⟨rfl, rfl, h1, h2, by omega, by simp [h3]⟩))))
      · exact .inr (.inr (.inr (.inl ⟨rfl, rfl, h1, by omega, by simp [h2]⟩)))
    · exact .inr (.inr (.inl ⟨rfl, rfl, by omega, by simp [h1]⟩))
end Go.Proofs.YteabkmelnoefiaaGreatDoor.Pl
namespace Go.Proofs.YteabkmelnoefiaaGreatDoor
open Go.RowKit
/-- Block B holds these bytes from its head on, and they may be written. -/
def Holds (B : Nat) (wr : World) (L : List UInt8) : Prop := ∀ j, j < L.length → wr.cell? ⟨B, j, none⟩ = some (.int .u8 ((L.getD j 0).toNat : Int)) ∧ wr.frozen? ⟨B, j, none⟩ = false
theorem bytes_open (W : World) (l : List UInt8) : ∃ (cap : Nat) (W' : World), (convert 9 113 (.string ⟨l.toArray⟩)).run Tryz.prog W = .ok (.slice (some ⟨W.heap.size, 0, none⟩) l.length cap) W' ∧ Below W.heap.size W W' ∧ Holds W.heap.size W' l ∧ W.heap.size < W'.heap.size := by
  have h := run_bytes_of_string (P := Tryz.prog) W 9 113 5 ⟨l.toArray⟩ Tryz.underlying9 Tryz.underlying113 Tryz.underlying5
  have e0 : (ByteArray.mk l.toArray).size = l.toArray.size := rfl
  rw [e0] at h
  have hrow := fun j (hj : j < l.length) => bytesRow_at ⟨l.toArray⟩ (grownCap W l.toArray.size 0 5) j (by simpa using hj)
  generalize bytesRow ⟨l.toArray⟩ (grownCap W l.toArray.size 0 5) = R at *
  refine ⟨_, _, h, (Below.refl _ W).drew.alloc (Nat.le_refl _) _, ?_, by show _ < (W.heap.push _).size; simp⟩
  intro j hj
  have hj2 := hrow j hj
  have e1 := World.cell?_alloc_mark W.drew R 5 (R.size, R.size + 1) j
  have e2 := World.frozen?_alloc_mark W.drew R 5 R.size (R.size + 1) j
  have hsz : j < R.size := (Array.getElem?_eq_some_iff.1 hj2).1
  constructor
  · refine e1.trans (hj2.trans ?_)
    simp [List.getD, hj]
  · refine e2.trans ?_
    simp; omega
theorem Holds.back {B : Nat} {wr : World} {L : List UInt8} (h : Holds B wr L) (cap : Nat) : (convert 113 9 (.slice (some ⟨B, 0, none⟩) L.length cap)).run Tryz.prog wr = .ok (.string ⟨L.toArray⟩) wr := by
  refine run_convert_bytes_back wr 113 9 5 ⟨B, 0, none⟩ cap L Tryz.underlying113 Tryz.underlying5 Tryz.underlying9 ?_
  intro j hj
  have e : (⟨B, 0, none⟩ : Addr).add j = ⟨B, j, none⟩ := by unfold Addr.add; split <;> simp_all
  rw [e, (h j hj).1]
  simp [List.getD, hj]
theorem Holds.set {B : Nat} {wr : World} {L : List UInt8} (h : Holds B wr L) (i : Nat) (hi : i < L.length) (b : UInt8) : Holds B (wr.setCell ⟨B, i, none⟩ (.int .u8 (b.toNat : Int))) (L.set i b) := by
  intro j hj
  rw [List.length_set] at hj
  rw [World.frozen?_setCell]
  refine ⟨?_, (h j hj).2⟩
  by_cases hij : i = j
  · subst hij
    rw [World.cell?_setCell_same _ _ _ (h i hi).1]
    simp [List.getD, hi]
  · rw [World.cell?_setCell_other _ _ _ _ (by intro e; exact hij (by injection e)), (h j hj).1]
    simp [List.getD, hij]
theorem i64_and3 (n : Int) : bits BinOp.and IntKind.i64 n 3 = n % 4 := by
  have e : (BitVec.ofInt 64 (3 : Int)).toNat = 3 := ofInt_i64 3 (by omega)
  show IntKind.i64.wrap ((BitVec.ofInt 64 n &&& BitVec.ofInt 64 3).toNat : Int) = _
  rw [BitVec.toNat_and, e, show (3 : Nat) = 2 ^ 2 - 1 from rfl, Nat.and_two_pow_sub_one_eq_mod, BitVec.toNat_ofInt, i64_wrap _ (by omega)]
  omega
def zeros (k : Nat) : List UInt8 := List.replicate k 0
theorem made_zeros (k : Nat) : madeCells #[Value.int .u8 0] k = (Lib.byteCells (zeros k)).toArray := by
  apply Array.toList_inj.1
  apply List.ext_getElem
  · simp [Lib.byteCells, zeros, madeCells]
  · intro i h1 h2
    simp [madeCells, Lib.byteCells, zeros, Nat.mod_one]
/-- So many new bytes. -/
theorem make_bytes (k : Nat) (h : k ≤ 100000) (W : World) : (Instr.makeSlice 113 (.int .i64 (k : Int)) (.int .i64 (k : Int))).run Tryz.prog W = .ok (.slice (some ⟨W.heap.size, 0, none⟩) k k) (W.alloc (.cells (Lib.byteCells (zeros k)).toArray 5)) := by
  have hi := infoB
  cases hq : Tryz.prog.info? 5 with
  | none => rw [hq] at hi; cases hi
  | some i =>
    rw [hq] at hi
    simp only [Option.map_some, Option.some.injEq, Prod.mk.injEq] at hi
    obtain ⟨hz, hs, hb⟩ := hi
    have := run_make (P := Tryz.prog) W 113 5 i (.int .u8 0) Tryz.underlying113 hq hz .i64 .i64 k k (by omega) (by omega) (by rw [hb]; omega) (by omega)
    rw [hs] at this
    simp only [Int.toNat_natCast, Nat.mul_one, Value.cells] at this
    rw [made_zeros] at this
    exact this
end Go.Proofs.YteabkmelnoefiaaGreatDoor
namespace Go.Proofs.YteabkmelnoefiaaGreatDoor.Pl
open Go.RowKit
theorem zeros_set (q : Nat) (y : UInt8) (r : List UInt8) : (zeros (q + 1) ++ r).set q y = zeros q ++ y :: r := by
  unfold zeros
  rw [List.replicate_succ', List.append_assoc, List.set_append_right _ _ (by simp)]
  simp
theorem holds_laid (W : World) (k : Nat) : Holds W.heap.size (W.alloc (.cells (Lib.byteCells (zeros k)).toArray 5)) (zeros k) := fun j hj => by
  have h := new_cells W (Lib.byteCells (zeros k)) 5 j (.int .u8 (((zeros k).getD j 0).toNat : Int)) (by simp [Lib.byteCells, hj])
  have e : (⟨W.heap.size, 0, none⟩ : Addr).add j = ⟨W.heap.size, j, none⟩ := by unfold Addr.add; split <;> simp_all
  rw [e] at h
  exact ⟨h, by simp⟩
set_option maxRecDepth 100000 in
theorem indexB0 (b n cap k : Nat) (hk : k < n) (W : World) : (Instr.indexAt 113 (.slice (some ⟨b, 0, none⟩) n cap) (.int .i64 (k : Int))).run Tryz.prog W = .ok (.pointer (some ⟨b, k, none⟩)) W := by
  have hs : (sizeOf (Tryz.prog.elem 113)).run Tryz.prog W = .ok 1 W := Tryz.sizeOf5 W
  have e := run_indexAt_slice (P := Tryz.prog) W 113 ⟨b, 0, none⟩ n cap .i64 (k : Int) Tryz.underlying113
  have e0 : ∀ j, (⟨b, 0, none⟩ : Addr).add j = ⟨b, j, none⟩ := fun j => by unfold Addr.add; split <;> simp_all
  rw [if_pos (by omega), hs] at e
  simp only [Result.andThen, Int.toNat_natCast] at e
  rw [e, Nat.mul_one, e0]
/-- A further byte of a number, as a machine reckons it. -/
def more (x b : Int) : Int := bits .or .i64 (wrap64 (x * 256)) (wrap64 b)
abbrev nm (l : List UInt8) : Int := Pol.numI more l
theorem nm_snoc (l : List UInt8) (c : UInt8) : nm (l ++ [c]) = more (nm l) (c.toNat : Int) := by simp [nm, Pol.numI]
end Go.Proofs.YteabkmelnoefiaaGreatDoor.Pl
namespace Go.Proofs.YteabkmelnoefiaaGreatDoor
open Go.RowKit
theorem i64_or_nat (a b : Nat) (ha : a < 9223372036854775808) (hb : b < 9223372036854775808) : bits .or .i64 (a : Int) (b : Int) = ((a ||| b : Nat) : Int) := by
  have hx : a ||| b < 2 ^ 63 := Nat.or_lt_two_pow (by omega) (by omega)
  show IntKind.i64.wrap ((BitVec.ofInt 64 (a : Int) ||| BitVec.ofInt 64 (b : Int)).toNat : Int) = _
  rw [BitVec.toNat_or, ofInt_i64 a ha, ofInt_i64 b hb, i64_wrap _ (by omega)]
theorem high_or (a b : UInt8) : bits BinOp.or IntKind.i64 (wrap64 (wrap64 (a.toNat : Int) * 256)) (wrap64 (b.toNat : Int)) = ((a.toNat * 256 + b.toNat : Nat) : Int) := by
  have ha := a.toNat_lt
  have hb := b.toNat_lt
  have e1 : wrap64 (a.toNat : Int) = (a.toNat : Int) := wrap64_nat _ (by omega)
  have e2 : wrap64 (b.toNat : Int) = (b.toNat : Int) := wrap64_nat _ (by omega)
  have e3 : wrap64 ((a.toNat : Int) * 256) = ((256 * a.toNat : Nat) : Int) := by
    have := wrap64_nat (256 * a.toNat) (by omega)
    rw [← this]
    congr 1
    omega
  rw [e1, e2, e3]
  have : a.toNat * 256 + b.toNat = (256 * a.toNat) ||| b.toNat := by
    have h := Nat.two_pow_add_eq_or_of_lt (i := 8) (b := b.toNat) (by omega) a.toNat
    rw [Nat.mul_comm]
    simpa using h
  rw [this]
  exact i64_or_nat _ _ (by omega) (by omega)
theorem high_plus (a b : UInt8) : wrap64 (wrap64 (wrap64 (a.toNat : Int) * 256) + wrap64 (b.toNat : Int)) = ((a.toNat * 256 + b.toNat : Nat) : Int) := by
  have ha := a.toNat_lt
  have hb := b.toNat_lt
  have e1 : wrap64 (a.toNat : Int) = (a.toNat : Int) := wrap64_nat _ (by omega)
  have e2 : wrap64 (b.toNat : Int) = (b.toNat : Int) := wrap64_nat _ (by omega)
  have e3 : wrap64 ((a.toNat : Int) * 256) = ((a.toNat * 256 : Nat) : Int) := by
    have := wrap64_nat (a.toNat * 256) (by omega)
    rw [← this]
    congr 1
  rw [e1, e3, e2]
  have := wrap64_nat (a.toNat * 256 + b.toNat) (by omega)
  rw [← this]
  congr 1
end Go.Proofs.YteabkmelnoefiaaGreatDoor
