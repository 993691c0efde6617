/-
  The library's own contracts for strings.Builder, laid at this program, with the frame that reaches above the builder: a byte, a text written, the text read.
  (A table of numbers and the kernel's comparison of each body; each contract is one application.)
-/
import Derived.Shelf.Strings.BuilderK
import Derived.Test.YtmonoicdejallaaProg
namespace Go.Proofs
open Go.Shelf
def Try.layK_ren : Go.Shelf.Ren := ⟨fun | 166 => 31 | 167 => 30 | 169 => 32 | 240 => 38 | 276 => 41 | n => n, fun | 0 => 0 | 3 => 3 | 4 => 4 | 5 => 5 | 9 => 9 | 20 => 20 | 37 => 43 | 70 => 62 | 72 => 64 | 75 => 66 | 80 => 70 | 127 => 76 | 164 => 80 | n => n, fun | n => n⟩
theorem Try.layK166 : Go.Proofs.Lays.n166 Try.prog Try.layK_ren := {
  mixed := by kernel_rfl
  f166 := Try.func31.trans (congrArg some (by kernel_rfl))
  f240 := Try.func38.trans (congrArg some (by kernel_rfl))
  f276 := Try.func41.trans (congrArg some (by kernel_rfl))
  t0 := Try.underlying0
  a0 := Try.isAgg0
  z0 := Try.sizeOf0
  v0 := Try.zeroValue0
  t3 := Try.underlying3
  a3 := Try.isAgg3
  z3 := Try.sizeOf3
  v3 := Try.zeroValue3
  t4 := Try.underlying4
  a4 := Try.isAgg4
  z4 := Try.sizeOf4
  v4 := Try.zeroValue4
  t9 := Try.underlying9
  a9 := Try.isAgg9
  z9 := Try.sizeOf9
  v9 := Try.zeroValue9
  t20 := Try.underlying20
  a20 := Try.isAgg20
  z20 := Try.sizeOf20
  v20 := Try.zeroValue20
  t37 := Try.underlying43
  a37 := Try.isAgg43
  z37 := Try.sizeOf43
  v37 := Try.zeroValue43
  t70 := Try.underlying62
  a70 := Try.isAgg62
  z70 := Try.sizeOf62
  v70 := Try.zeroValue62
  t72 := Try.underlying64
  a72 := Try.isAgg64
  z72 := Try.sizeOf64
  v72 := Try.zeroValue64
  t75 := Try.underlying66
  a75 := Try.isAgg66
  z75 := Try.sizeOf66
  v75 := Try.zeroValue66
  t164 := Try.underlying80
  a164 := Try.isAgg80
  z164 := Try.sizeOf80
  v164 := Try.zeroValue80 }
theorem Try.layK167 : Go.Proofs.Lays.n167 Try.prog Try.layK_ren := {
  mixed := by kernel_rfl
  f167 := Try.func30.trans (congrArg some (by kernel_rfl))
  f240 := Try.func38.trans (congrArg some (by kernel_rfl))
  f276 := Try.func41.trans (congrArg some (by kernel_rfl))
  t0 := Try.underlying0
  a0 := Try.isAgg0
  z0 := Try.sizeOf0
  v0 := Try.zeroValue0
  t4 := Try.underlying4
  a4 := Try.isAgg4
  z4 := Try.sizeOf4
  v4 := Try.zeroValue4
  t5 := Try.underlying5
  a5 := Try.isAgg5
  z5 := Try.sizeOf5
  v5 := Try.zeroValue5
  t9 := Try.underlying9
  a9 := Try.isAgg9
  z9 := Try.sizeOf9
  v9 := Try.zeroValue9
  t20 := Try.underlying20
  a20 := Try.isAgg20
  z20 := Try.sizeOf20
  v20 := Try.zeroValue20
  t37 := Try.underlying43
  a37 := Try.isAgg43
  z37 := Try.sizeOf43
  v37 := Try.zeroValue43
  t70 := Try.underlying62
  a70 := Try.isAgg62
  z70 := Try.sizeOf62
  v70 := Try.zeroValue62
  t72 := Try.underlying64
  a72 := Try.isAgg64
  z72 := Try.sizeOf64
  v72 := Try.zeroValue64
  t75 := Try.underlying66
  a75 := Try.isAgg66
  z75 := Try.sizeOf66
  v75 := Try.zeroValue66
  t164 := Try.underlying80
  a164 := Try.isAgg80
  z164 := Try.sizeOf80
  v164 := Try.zeroValue80 }
theorem Try.layK169 : Go.Proofs.Lays.n169 Try.prog Try.layK_ren := {
  mixed := by kernel_rfl
  f169 := Try.func32.trans (congrArg some (by kernel_rfl))
  t0 := Try.underlying0
  a0 := Try.isAgg0
  z0 := Try.sizeOf0
  v0 := Try.zeroValue0
  t3 := Try.underlying3
  a3 := Try.isAgg3
  z3 := Try.sizeOf3
  v3 := Try.zeroValue3
  t9 := Try.underlying9
  a9 := Try.isAgg9
  z9 := Try.sizeOf9
  v9 := Try.zeroValue9
  t37 := Try.underlying43
  a37 := Try.isAgg43
  z37 := Try.sizeOf43
  v37 := Try.zeroValue43
  t70 := Try.underlying62
  a70 := Try.isAgg62
  z70 := Try.sizeOf62
  v70 := Try.zeroValue62
  t72 := Try.underlying64
  a72 := Try.isAgg64
  z72 := Try.sizeOf64
  v72 := Try.zeroValue64
  t127 := Try.underlying76
  a127 := Try.isAgg76
  z127 := Try.sizeOf76
  v127 := Try.zeroValue76 }
theorem Try.layK_extra : Builder.Extra Try.prog Try.layK_ren := {
  sizeBuilder := by kernel_rfl
  liesBuilder := by kernel_rfl
  t5 := Try.underlying5
  a5 := Try.isAgg5
  z5 := Try.sizeOf5
  v5 := Try.zeroValue5
  infoByte := by kernel_rfl
  cellsByte := by kernel_rfl
  sizeByte := by kernel_rfl
  neB5 := by decide }
open Go.RowKit in
/-- A builder, fresh or used, that holds these bytes. -/
abbrev Try.IsB (B b : Nat) (l : List UInt8) (w : World) : Prop := Lib.IsBuilderF 64 5 B b (Lib.byteCells l) w
open Go.RowKit in
/-- What was there is as it was, but the builder and rows of bytes. -/
abbrev Try.OthB (b : Nat) (w w' : World) : Prop := Lib.OthersKept 5 (some b) w w'
open Go.RowKit in
/-- A builder just laid. -/
theorem Try.kNew (W : World) : Try.IsB W.heap.size W.heap.size [] (W.alloc (.cells #[.pointer none, .slice none 0 0] 64)) :=
  .inl ⟨Nat.le_refl _, .slice none 0 0, heap_alloc_new _ _, World.ownsRowF_nil _ _ _ _, by simp [Value.ownBlock]⟩
open Go.RowKit in
theorem Try.OthB.block {b k : Nat} {w w' : World} {C : Array Value} {T : TypeId} (h : Try.OthB b w w') (hk : w.heap[k]? = some (.cells C T)) (hb : k ≠ b) (hT : T ≠ 5) : w'.heap[k]? = some (.cells C T) :=
  h k _ hk (fun e => hb (by injection e)) (fun c fz e => hT (by injection e))
open Go.RowKit in
/-- A byte more. -/
theorem Try.kByte (B b : Nat) (l : List UInt8) (c : UInt8) (z : Int) (w : World) (h : Try.IsB B b l w) (hz : z = (c.toNat : Int)) (hlen : l.length + 1 ≤ 140737488355328) (hBw : B ≤ w.heap.size) :
    Calls Try.prog 30 #[.pointer (some ⟨b, 0, none⟩), .int .u8 z] w fun e w' => e = .returned .nilIface ∧ Try.IsB B b (l ++ [c]) w' ∧ Below B w w' ∧ Try.OthB b w w' := by
  subst hz
  refine (Any.Builder_WriteByte_k Try.layK167 Try.layK_extra B b (Lib.byteCells l) c.toNat w h (by simp [Lib.byteCells]; omega) hBw).mono fun e w' ⟨h1, h2, h3, h4⟩ => ⟨h1, .inr ?_, h3, h4⟩
  have e2 : Lib.byteCells (l ++ [c]) = Lib.byteCells l ++ [.int .u8 (c.toNat : Int)] := by simp [Lib.byteCells]
  rw [e2]
  exact h2
open Go.RowKit in
/-- A text more. -/
theorem Try.kText (B b : Nat) (l d : List UInt8) (w : World) (h : Try.IsB B b l w) (hlen : l.length + d.length ≤ 140737488355328) (hBw : B ≤ w.heap.size) :
    Calls Try.prog 31 #[.pointer (some ⟨b, 0, none⟩), .string ⟨d.toArray⟩] w fun e w' => e = .returned (.tuple #[.int .i64 d.length, .nilIface]) ∧ Try.IsB B b (l ++ d) w' ∧ Below B w w' ∧ Try.OthB b w w' := by
  have hs : (ByteArray.mk d.toArray).size = d.length := by simp [ByteArray.size]
  refine (Any.Builder_WriteString_k Try.layK166 Try.layK_extra B b (Lib.byteCells l) ⟨d.toArray⟩ w h (by rw [hs]; simp [Lib.byteCells]; omega) hBw).mono fun e w' ⟨h1, h2, h3, h4⟩ => ⟨by rw [h1, hs], .inr ?_, h3, h4⟩
  have e2 : Lib.byteCells (l ++ d) = Lib.byteCells l ++ Lib.strCells ⟨d.toArray⟩ := by simp [Lib.byteCells, Lib.strCells]
  rw [e2]
  exact h2
open Go.RowKit in
/-- What it holds, as a string. -/
theorem Try.kAll (B b : Nat) (l : List UInt8) (w : World) (h : Try.IsB B b l w) (hBw : B ≤ w.heap.size) :
    Calls Try.prog 32 #[.pointer (some ⟨b, 0, none⟩)] w fun e w' => e = .returned (.string ⟨l.toArray⟩) ∧ Below B w w' :=
  (Any.Builder_String_any_k Try.layK169 Try.layK_extra B b l w h hBw).mono fun _ _ ⟨h1, _, h3, _⟩ => ⟨h1, h3⟩
end Go.Proofs
