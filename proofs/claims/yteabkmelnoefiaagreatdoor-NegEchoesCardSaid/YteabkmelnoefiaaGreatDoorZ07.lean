/-
  The program's own rows as lists; what a cell's text says, read as the program reads it.
  Contract of the program's own rows.
  Contracts of the library at this program: strings.Cut, strings.Split, strings.Fields (of a text of ASCII), slices.Index at texts.
  (The tables are what the kit's two commands print for this program: numbers, one field a row; then four applications.)
  Slices of texts of a call's own: made, pushed behind, kept while other memory is made.
  A slice that reads as texts.
  Contract of the document's own table: an event's row.
  Contracts of the program's own words: is there such a place, an event's row cut into texts, a digit, an action's number.
-/
import Derived.Test.YteabkmelnoefiaaGreatDoorZ01
import Derived.Test.YteabkmelnoefiaaGreatDoorZ02
import Derived.Test.YteabkmelnoefiaaGreatDoorZ05
import Derived.Lib.Fields
import Derived.Lib.IndexMore
import Derived.Lib.Split
import Derived.Lib.SlicesS
import Derived.Shelf.Strings.Cut
import Derived.Shelf.Strings.Split
import Derived.Shelf.Strings.Fields
import Derived.Shelf.Slices.Turned
import Derived.Test.YteabkmelnoefiaaGreatDoorProg
import Derived.Deep.QuietTactic
import Derived.BigQuiet
import Derived.Deep.DeepCutAuto
namespace Go.Proofs.YteabkmelnoefiaaGreatDoor.Fsm
def rowB (v : Nat) : List UInt8 := match v with
  | 0 => [50, 32, 32, 32, 32, 32, 32, 105, 114, 99, 44, 115, 99, 114, 47, 54, 32, 32, 45, 32, 32, 32, 32, 32, 32, 32, 32, 32, 32, 45, 32, 32, 32, 32, 32, 32, 32, 32, 32, 32, 32, 32, 32, 32, 45, 32, 32, 32, 32, 32, 32, 45, 32, 32, 32, 32, 32, 32, 45, 32, 32, 32, 32, 32, 32, 32, 32, 32, 32, 45, 32, 32, 32, 32, 32, 32, 32, 32, 32, 32, 45, 32, 32, 32, 32, 32, 32, 32, 32, 32, 32, 45]
  | 1 => [45, 32, 32, 32, 32, 32, 32, 45, 32, 32, 32, 32, 32, 32, 32, 32, 32, 32, 48, 32, 32, 32, 32, 32, 32, 32, 32, 32, 32, 116, 108, 115, 47, 49, 32, 32, 32, 32, 32, 32, 32, 32, 32, 32, 48, 32, 32, 32, 32, 32, 32, 49, 32, 32, 32, 32, 32, 32, 49, 32, 32, 32, 32, 32, 32, 32, 32, 32, 32, 49, 32, 32, 32, 32, 32, 32, 32, 32, 32, 32, 49, 32, 32, 32, 32, 32, 32, 32, 32, 32, 32, 116, 108, 100, 47, 49]
  | 2 => [116, 108, 115, 47, 49, 32, 32, 49, 32, 32, 32, 32, 32, 32, 32, 32, 32, 32, 105, 114, 99, 44, 115, 99, 114, 47, 54, 32, 32, 51, 32, 32, 32, 32, 32, 32, 32, 32, 32, 32, 32, 32, 32, 32, 53, 32, 32, 32, 32, 32, 32, 53, 32, 32, 32, 32, 32, 32, 54, 32, 32, 32, 32, 32, 32, 32, 32, 32, 32, 55, 32, 32, 32, 32, 32, 32, 32, 32, 32, 32, 56, 32, 32, 32, 32, 32, 32, 32, 32, 32, 32, 57]
  | 3 => [48, 32, 32, 32, 32, 32, 32, 116, 108, 102, 47, 48, 32, 32, 32, 32, 32, 32, 50, 32, 32, 32, 32, 32, 32, 32, 32, 32, 32, 50, 32, 32, 32, 32, 32, 32, 32, 32, 32, 32, 32, 32, 32, 32, 52, 32, 32, 32, 32, 32, 32, 52, 32, 32, 32, 32, 32, 32, 105, 114, 99, 44, 115, 116, 114, 47, 52, 32, 32, 105, 114, 99, 44, 115, 116, 114, 47, 52, 32, 32, 105, 114, 99, 44, 115, 116, 114, 47, 52, 32, 32, 116, 108, 100, 44, 105, 114, 99, 44, 115, 116, 114, 47, 52]
  | 4 => [45, 32, 32, 32, 32, 32, 32, 45, 32, 32, 32, 32, 32, 32, 32, 32, 32, 32, 45, 32, 32, 32, 32, 32, 32, 32, 32, 32, 32, 45, 32, 32, 32, 32, 32, 32, 32, 32, 32, 32, 32, 32, 32, 32, 115, 116, 114, 47, 52, 32, 32, 115, 116, 114, 47, 53, 32, 32, 115, 99, 114, 47, 54, 32, 32, 32, 32, 32, 32, 115, 99, 114, 47, 54, 32, 32, 32, 32, 32, 32, 115, 99, 114, 47, 56, 32, 32, 32, 32, 32, 32, 45]
  | 5 => [45, 32, 32, 32, 32, 32, 32, 45, 32, 32, 32, 32, 32, 32, 32, 32, 32, 32, 45, 32, 32, 32, 32, 32, 32, 32, 32, 32, 32, 45, 32, 32, 32, 32, 32, 32, 32, 32, 32, 32, 32, 32, 32, 32, 116, 108, 102, 47, 50, 32, 32, 116, 108, 102, 47, 51, 32, 32, 116, 108, 102, 47, 51, 32, 32, 32, 32, 32, 32, 116, 108, 102, 47, 51, 32, 32, 32, 32, 32, 32, 116, 108, 102, 47, 51, 32, 32, 32, 32, 32, 32, 45]
  | 6 => [45, 32, 32, 32, 32, 32, 32, 45, 32, 32, 32, 32, 32, 32, 32, 32, 32, 32, 115, 116, 97, 47, 50, 32, 32, 32, 32, 32, 32, 105, 114, 99, 44, 115, 99, 114, 44, 115, 99, 97, 47, 56, 32, 32, 52, 32, 32, 32, 32, 32, 32, 53, 32, 32, 32, 32, 32, 32, 115, 99, 97, 47, 56, 32, 32, 32, 32, 32, 32, 115, 99, 97, 44, 116, 108, 117, 47, 57, 32, 32, 115, 99, 97, 47, 56, 32, 32, 32, 32, 32, 32, 116, 108, 100, 44, 115, 99, 114, 44, 115, 99, 97, 47, 56]
  | 7 => [45, 32, 32, 32, 32, 32, 32, 45, 32, 32, 32, 32, 32, 32, 32, 32, 32, 32, 115, 116, 97, 47, 50, 32, 32, 32, 32, 32, 32, 105, 114, 99, 44, 115, 99, 114, 44, 115, 99, 110, 47, 54, 32, 32, 52, 32, 32, 32, 32, 32, 32, 53, 32, 32, 32, 32, 32, 32, 115, 99, 110, 47, 54, 32, 32, 32, 32, 32, 32, 115, 99, 110, 47, 55, 32, 32, 32, 32, 32, 32, 115, 99, 110, 47, 54, 32, 32, 32, 32, 32, 32, 116, 108, 100, 44, 115, 99, 114, 44, 115, 99, 110, 47, 54]
  | 8 => [45, 32, 32, 32, 32, 32, 32, 45, 32, 32, 32, 32, 32, 32, 32, 32, 32, 32, 115, 116, 97, 47, 50, 32, 32, 32, 32, 32, 32, 115, 116, 97, 47, 51, 32, 32, 32, 32, 32, 32, 32, 32, 32, 32, 52, 32, 32, 32, 32, 32, 32, 53, 32, 32, 32, 32, 32, 32, 105, 114, 99, 47, 55, 32, 32, 32, 32, 32, 32, 115, 99, 114, 47, 54, 32, 32, 32, 32, 32, 32, 105, 114, 99, 44, 116, 108, 117, 47, 57, 32, 32, 116, 108, 100, 44, 115, 99, 114, 47, 54]
  | 9 => [45, 32, 32, 32, 32, 32, 32, 45, 32, 32, 32, 32, 32, 32, 32, 32, 32, 32, 115, 116, 97, 47, 50, 32, 32, 32, 32, 32, 32, 115, 116, 97, 47, 51, 32, 32, 32, 32, 32, 32, 32, 32, 32, 32, 52, 32, 32, 32, 32, 32, 32, 53, 32, 32, 32, 32, 32, 32, 105, 114, 99, 44, 115, 99, 114, 47, 54, 32, 32, 115, 99, 114, 47, 54, 32, 32, 32, 32, 32, 32, 105, 114, 99, 44, 115, 99, 114, 47, 56, 32, 32, 116, 108, 100, 44, 115, 99, 114, 47, 54]
  | 10 => [45, 32, 32, 32, 32, 32, 32, 45, 32, 32, 32, 32, 32, 32, 32, 32, 32, 32, 115, 116, 97, 47, 50, 32, 32, 32, 32, 32, 32, 115, 116, 97, 47, 51, 32, 32, 32, 32, 32, 32, 32, 32, 32, 32, 115, 116, 97, 47, 52, 32, 32, 115, 116, 97, 47, 53, 32, 32, 115, 116, 97, 47, 54, 32, 32, 32, 32, 32, 32, 115, 116, 97, 47, 54, 32, 32, 32, 32, 32, 32, 115, 116, 97, 47, 54, 32, 32, 32, 32, 32, 32, 116, 108, 100, 44, 122, 114, 99, 44, 115, 116, 97, 47, 53]
  | 11 => [45, 32, 32, 32, 32, 32, 32, 45, 32, 32, 32, 32, 32, 32, 32, 32, 32, 32, 50, 32, 32, 32, 32, 32, 32, 32, 32, 32, 32, 51, 32, 32, 32, 32, 32, 32, 32, 32, 32, 32, 32, 32, 32, 32, 116, 108, 102, 47, 50, 32, 32, 116, 108, 102, 47, 51, 32, 32, 54, 32, 32, 32, 32, 32, 32, 32, 32, 32, 32, 54, 32, 32, 32, 32, 32, 32, 32, 32, 32, 32, 56, 32, 32, 32, 32, 32, 32, 32, 32, 32, 32, 116, 108, 100, 44, 115, 99, 114, 47, 54]
  | 12 => [45, 32, 32, 32, 32, 32, 32, 45, 32, 32, 32, 32, 32, 32, 32, 32, 32, 32, 115, 99, 106, 47, 50, 32, 32, 32, 32, 32, 32, 115, 99, 106, 47, 51, 32, 32, 32, 32, 32, 32, 32, 32, 32, 32, 115, 99, 106, 47, 52, 32, 32, 115, 99, 106, 47, 53, 32, 32, 115, 99, 106, 47, 54, 32, 32, 32, 32, 32, 32, 115, 99, 106, 47, 55, 32, 32, 32, 32, 32, 32, 115, 99, 106, 47, 56, 32, 32, 32, 32, 32, 32, 115, 99, 106, 47, 57]
  | 13 => [45, 32, 32, 32, 32, 32, 32, 45, 32, 32, 32, 32, 32, 32, 32, 32, 32, 32, 50, 32, 32, 32, 32, 32, 32, 32, 32, 32, 32, 51, 32, 32, 32, 32, 32, 32, 32, 32, 32, 32, 32, 32, 32, 32, 52, 32, 32, 32, 32, 32, 32, 53, 32, 32, 32, 32, 32, 32, 54, 32, 32, 32, 32, 32, 32, 32, 32, 32, 32, 54, 32, 32, 32, 32, 32, 32, 32, 32, 32, 32, 56, 32, 32, 32, 32, 32, 32, 32, 32, 32, 32, 57]
  | 14 => [45, 32, 32, 32, 32, 32, 32, 45, 32, 32, 32, 32, 32, 32, 32, 32, 32, 32, 116, 108, 102, 47, 50, 32, 32, 32, 32, 32, 32, 116, 108, 102, 47, 51, 32, 32, 32, 32, 32, 32, 32, 32, 32, 32, 116, 108, 102, 47, 50, 32, 32, 116, 108, 102, 47, 51, 32, 32, 116, 108, 102, 47, 51, 32, 32, 32, 32, 32, 32, 116, 108, 102, 47, 51, 32, 32, 32, 32, 32, 32, 116, 108, 102, 47, 51, 32, 32, 32, 32, 32, 32, 116, 108, 100, 44, 105, 114, 99, 44, 115, 116, 114, 47, 53]
  | 15 => [45, 32, 32, 32, 32, 32, 32, 45, 32, 32, 32, 32, 32, 32, 32, 32, 32, 32, 50, 32, 32, 32, 32, 32, 32, 32, 32, 32, 32, 51, 32, 32, 32, 32, 32, 32, 32, 32, 32, 32, 32, 32, 32, 32, 52, 32, 32, 32, 32, 32, 32, 53, 32, 32, 32, 32, 32, 32, 54, 32, 32, 32, 32, 32, 32, 32, 32, 32, 32, 55, 32, 32, 32, 32, 32, 32, 32, 32, 32, 32, 56, 32, 32, 32, 32, 32, 32, 32, 32, 32, 32, 115, 101, 114, 47, 57]
  | _ => []
theorem rowB_fields (v : Nat) (h : v < 16) : Lib.fields (rowB v) = rowT v := by
  have : ∀ v : Fin 16, Lib.fields (rowB v) = rowT v := by decide +kernel
  exact this ⟨v, h⟩
theorem rowB_short (v : Nat) (h : v < 16) : (rowB v).length ≤ 200 := by
  have : ∀ v : Fin 16, (rowB v).length ≤ 200 := by decide +kernel
  exact this ⟨v, h⟩
theorem rowB_ascii (v : Nat) (h : v < 16) : ∀ b ∈ rowB v, b.toNat < 128 := by
  have : ∀ v : Fin 16, ∀ b ∈ rowB v, b.toNat < 128 := by decide +kernel
  exact this ⟨v, h⟩
/-- The names of the actions, by number; none has number 0. -/
def names : List ByteArray := ([] :: words).map fun l => ⟨l.toArray⟩
def comma : ByteArray := ⟨#[44]⟩
/-- The parts of a list of names. -/
def parts (l : List UInt8) : List ByteArray := Lib.splitB comma 0 (Lib.countB ⟨l.toArray⟩ comma) ⟨l.toArray⟩
/-- What a cell's text says to the program. -/
def told (s v : Nat) : Bool := if text s v = [45] then place s v == (0, [], 1001) else
  (place s v).2.2 == 0 && decide (0 ≤ (place s v).1) && decide ((place s v).1 ≤ 9) && decide ((place s v).2.1.length ≤ 3) && decide ((text s v).length ≤ 100) &&
  if (Lib.cut (text s v) [47]).2.2 then (Lib.cut (text s v) [47]).2.1 == [UInt8.ofNat (48 + (place s v).1.toNat)] && decide ((Lib.cut (text s v) [47]).1.length ≤ 100) &&
    (parts (Lib.cut (text s v) [47]).1).map (fun x => Lib.idxOfS names x) == (place s v).2.1 && Lib.countB ⟨(Lib.cut (text s v) [47]).1.toArray⟩ comma + 1 == (place s v).2.1.length
  else text s v == [UInt8.ofNat (48 + (place s v).1.toNat)] && (place s v).2.1 == []
set_option maxRecDepth 100000 in
theorem all_told (s v : Nat) (hs : s < 10) (hv : v < 16) : told s v = true := by
  have : ∀ s : Fin 10, ∀ v : Fin 16, told s v = true := by decide +kernel
  exact this ⟨s, hs⟩ ⟨v, hv⟩
end Go.Proofs.YteabkmelnoefiaaGreatDoor.Fsm
namespace Go.Proofs.YteabkmelnoefiaaGreatDoor.U
open Go.RowKit
theorem prow_0 (w : World) : Calls Tryz.prog 110 #[.int .i64 0] w fun e w' => e = .returned (.string ⟨(Fsm.rowB 0).toArray⟩) ∧ w' = w := by
  go_enter Tryz.func110, Tryz.ntmps110
  go_wp2_with fail
  go_ret
  exact ⟨rfl, rfl⟩
theorem prow_1 (w : World) : Calls Tryz.prog 110 #[.int .i64 1] w fun e w' => e = .returned (.string ⟨(Fsm.rowB 1).toArray⟩) ∧ w' = w := by
  go_enter Tryz.func110, Tryz.ntmps110
  go_wp2_with fail
  go_ret
  exact ⟨rfl, rfl⟩
theorem prow_2 (w : World) : Calls Tryz.prog 110 #[.int .i64 2] w fun e w' => e = .returned (.string ⟨(Fsm.rowB 2).toArray⟩) ∧ w' = w := by
  go_enter Tryz.func110, Tryz.ntmps110
  go_wp2_with fail
  go_ret
  exact ⟨rfl, rfl⟩
theorem prow_3 (w : World) : Calls Tryz.prog 110 #[.int .i64 3] w fun e w' => e = .returned (.string ⟨(Fsm.rowB 3).toArray⟩) ∧ w' = w := by
  go_enter Tryz.func110, Tryz.ntmps110
  go_wp2_with fail
  go_ret
  exact ⟨rfl, rfl⟩
theorem prow_4 (w : World) : Calls Tryz.prog 110 #[.int .i64 4] w fun e w' => e = .returned (.string ⟨(Fsm.rowB 4).toArray⟩) ∧ w' = w := by
  go_enter Tryz.func110, Tryz.ntmps110
  go_wp2_with fail
  go_ret
  exact ⟨rfl, rfl⟩
theorem prow_5 (w : World) : Calls Tryz.prog 110 #[.int .i64 5] w fun e w' => e = .returned (.string ⟨(Fsm.rowB 5).toArray⟩) ∧ w' = w := by
  go_enter Tryz.func110, Tryz.ntmps110
  go_wp2_with fail
  go_ret
  exact ⟨rfl, rfl⟩
theorem prow_6 (w : World) : Calls Tryz.prog 110 #[.int .i64 6] w fun e w' => e = .returned (.string ⟨(Fsm.rowB 6).toArray⟩) ∧ w' = w := by
  go_enter Tryz.func110, Tryz.ntmps110
  go_wp2_with fail
  go_ret
  exact ⟨rfl, rfl⟩
theorem prow_7 (w : World) : Calls Tryz.prog 110 #[.int .i64 7] w fun e w' => e = .returned (.string ⟨(Fsm.rowB 7).toArray⟩) ∧ w' = w := by
  go_enter Tryz.func110, Tryz.ntmps110
  go_wp2_with fail
  go_ret
  exact ⟨rfl, rfl⟩
theorem prow_8 (w : World) : Calls Tryz.prog 110 #[.int .i64 8] w fun e w' => e = .returned (.string ⟨(Fsm.rowB 8).toArray⟩) ∧ w' = w := by
  go_enter Tryz.func110, Tryz.ntmps110
  go_wp2_with fail
  go_ret
  exact ⟨rfl, rfl⟩
theorem prow_9 (w : World) : Calls Tryz.prog 110 #[.int .i64 9] w fun e w' => e = .returned (.string ⟨(Fsm.rowB 9).toArray⟩) ∧ w' = w := by
  go_enter Tryz.func110, Tryz.ntmps110
  go_wp2_with fail
  go_ret
  exact ⟨rfl, rfl⟩
theorem prow_10 (w : World) : Calls Tryz.prog 110 #[.int .i64 10] w fun e w' => e = .returned (.string ⟨(Fsm.rowB 10).toArray⟩) ∧ w' = w := by
  go_enter Tryz.func110, Tryz.ntmps110
  go_wp2_with fail
  go_ret
  exact ⟨rfl, rfl⟩
theorem prow_11 (w : World) : Calls Tryz.prog 110 #[.int .i64 11] w fun e w' => e = .returned (.string ⟨(Fsm.rowB 11).toArray⟩) ∧ w' = w := by
  go_enter Tryz.func110, Tryz.ntmps110
  go_wp2_with fail
  go_ret
  exact ⟨rfl, rfl⟩
theorem prow_12 (w : World) : Calls Tryz.prog 110 #[.int .i64 12] w fun e w' => e = .returned (.string ⟨(Fsm.rowB 12).toArray⟩) ∧ w' = w := by
  go_enter Tryz.func110, Tryz.ntmps110
  go_wp2_with fail
  go_ret
  exact ⟨rfl, rfl⟩
theorem prow_13 (w : World) : Calls Tryz.prog 110 #[.int .i64 13] w fun e w' => e = .returned (.string ⟨(Fsm.rowB 13).toArray⟩) ∧ w' = w := by
  go_enter Tryz.func110, Tryz.ntmps110
  go_wp2_with fail
  go_ret
  exact ⟨rfl, rfl⟩
theorem prow_14 (w : World) : Calls Tryz.prog 110 #[.int .i64 14] w fun e w' => e = .returned (.string ⟨(Fsm.rowB 14).toArray⟩) ∧ w' = w := by
  go_enter Tryz.func110, Tryz.ntmps110
  go_wp2_with fail
  go_ret
  exact ⟨rfl, rfl⟩
theorem prow_15 (w : World) : Calls Tryz.prog 110 #[.int .i64 15] w fun e w' => e = .returned (.string ⟨(Fsm.rowB 15).toArray⟩) ∧ w' = w := by
  go_enter Tryz.func110, Tryz.ntmps110
  go_wp2_with fail
  go_ret
  exact ⟨rfl, rfl⟩
theorem prow_any (v : Nat) (hv : v < 16) (w : World) : Calls Tryz.prog 110 #[.int .i64 (v : Int)] w fun e w' => e = .returned (.string ⟨(Fsm.rowB v).toArray⟩) ∧ w' = w := by
  match v, hv with
  | 0, _ => exact prow_0 w
  | 1, _ => exact prow_1 w
  | 2, _ => exact prow_2 w
  | 3, _ => exact prow_3 w
  | 4, _ => exact prow_4 w
  | 5, _ => exact prow_5 w
  | 6, _ => exact prow_6 w
  | 7, _ => exact prow_7 w
  | 8, _ => exact prow_8 w
  | 9, _ => exact prow_9 w
  | 10, _ => exact prow_10 w
  | 11, _ => exact prow_11 w
  | 12, _ => exact prow_12 w
  | 13, _ => exact prow_13 w
  | 14, _ => exact prow_14 w
  | 15, _ => exact prow_15 w
  | n + 16, h => exact absurd h (by omega)
end Go.Proofs.YteabkmelnoefiaaGreatDoor.U
namespace Go.Proofs
open Go.Shelf
def Tryz.lays145_ren : Go.Shelf.Ren := ⟨fun | 145 => 105 | 220 => 114 | 219 => 119 | 217 => 124 | 225 => 125 | 224 => 126 | 267 => 127 | 266 => 133 | 314 => 134 | n => n, fun | 9 => 9 | 4 => 4 | 59 => 171 | 3 => 3 | 5 => 5 | 46 => 60 | 146 => 208 | 51 => 190 | n => n, fun | 1 => 2 | n => n⟩
theorem Tryz.lays145 : Go.Proofs.Lays.n145 Tryz.prog Tryz.lays145_ren := {
  mixed := by kernel_rfl
  f145 := Tryz.func105.trans (congrArg some (by kernel_rfl))
  f217 := Tryz.func124.trans (congrArg some (by kernel_rfl))
  f219 := Tryz.func119.trans (congrArg some (by kernel_rfl))
  f220 := Tryz.func114.trans (congrArg some (by kernel_rfl))
  f224 := Tryz.func126.trans (congrArg some (by kernel_rfl))
  f225 := Tryz.func125.trans (congrArg some (by kernel_rfl))
  f266 := Tryz.func133.trans (congrArg some (by kernel_rfl))
  f267 := Tryz.func127.trans (congrArg some (by kernel_rfl))
  f314 := Tryz.func134.trans (congrArg some (by kernel_rfl))
  t3 := Tryz.underlying3
  a3 := Tryz.isAgg3
  z3 := Tryz.sizeOf3
  v3 := Tryz.zeroValue3
  t4 := Tryz.underlying4
  a4 := Tryz.isAgg4
  z4 := Tryz.sizeOf4
  v4 := Tryz.zeroValue4
  t5 := Tryz.underlying5
  a5 := Tryz.isAgg5
  z5 := Tryz.sizeOf5
  v5 := Tryz.zeroValue5
  t9 := Tryz.underlying9
  a9 := Tryz.isAgg9
  z9 := Tryz.sizeOf9
  v9 := Tryz.zeroValue9
  t46 := Tryz.underlying60
  a46 := Tryz.isAgg60
  z46 := Tryz.sizeOf60
  v46 := Tryz.zeroValue60
  t51 := Tryz.underlying190
  a51 := Tryz.isAgg190
  z51 := Tryz.sizeOf190
  v51 := Tryz.zeroValue190
  t59 := Tryz.underlying171
  a59 := Tryz.isAgg171
  z59 := Tryz.sizeOf171
  v59 := Tryz.zeroValue171
  t146 := Tryz.underlying208
  a146 := Tryz.isAgg208
  z146 := Tryz.sizeOf208
  v146 := Tryz.zeroValue208
  g1 := by kernel_rfl }
open Go.RowKit Go.Lib in
theorem Tryz.strings_Cut (s sep : ByteArray) (m : Int) (w : World) (hs : s.size < 4294967281) (hm : w.cell? ⟨2, 0, none⟩ = some (.int .i64 m)) :
    Calls Tryz.prog 105 #[.string s, .string sep] w fun e w' => e = .returned (.tuple #[.string ⟨(Lib.cut s.data.toList sep.data.toList).1.toArray⟩, .string ⟨(Lib.cut s.data.toList sep.data.toList).2.1.toArray⟩, .bool (Lib.cut s.data.toList sep.data.toList).2.2]) ∧ ∃ n, w' = w.drewN n := Any.strings_Cut Tryz.lays145 s sep m w hs hm
def Tryz.lays146_ren : Go.Shelf.Ren := ⟨fun | 146 => 107 | 221 => 115 | 268 => 120 | 138 => 121 | 143 => 122 | 195 => 128 | 197 => 129 | 218 => 130 | 219 => 119 | 260 => 135 | 217 => 124 | 225 => 125 | 224 => 126 | 267 => 127 | 266 => 133 | 314 => 134 | n => n, fun | 9 => 9 | 31 => 143 | 3 => 3 | 4 => 4 | 0 => 0 | 105 => 195 | 21 => 21 | 5 => 5 | 46 => 60 | 119 => 182 | 139 => 214 | 138 => 213 | 146 => 208 | 51 => 190 | n => n, fun | 1 => 2 | 3 => 3 | 4 => 4 | n => n⟩
theorem Tryz.lays146 : Go.Proofs.Lays.n146 Tryz.prog Tryz.lays146_ren := {
  mixed := by kernel_rfl
  f138 := Tryz.func121.trans (congrArg some (by kernel_rfl))
  f143 := Tryz.func122.trans (congrArg some (by kernel_rfl))
  f146 := Tryz.func107.trans (congrArg some (by kernel_rfl))
  f195 := Tryz.func128.trans (congrArg some (by kernel_rfl))
  f197 := Tryz.func129.trans (congrArg some (by kernel_rfl))
  f217 := Tryz.func124.trans (congrArg some (by kernel_rfl))
  f218 := Tryz.func130.trans (congrArg some (by kernel_rfl))
  f219 := Tryz.func119.trans (congrArg some (by kernel_rfl))
  f221 := Tryz.func115.trans (congrArg some (by kernel_rfl))
  f224 := Tryz.func126.trans (congrArg some (by kernel_rfl))
  f225 := Tryz.func125.trans (congrArg some (by kernel_rfl))
  f260 := Tryz.func135.trans (congrArg some (by kernel_rfl))
  f266 := Tryz.func133.trans (congrArg some (by kernel_rfl))
  f267 := Tryz.func127.trans (congrArg some (by kernel_rfl))
  f268 := Tryz.func120.trans (congrArg some (by kernel_rfl))
  f314 := Tryz.func134.trans (congrArg some (by kernel_rfl))
  t0 := Tryz.underlying0
  a0 := Tryz.isAgg0
  z0 := Tryz.sizeOf0
  v0 := Tryz.zeroValue0
  t3 := Tryz.underlying3
  a3 := Tryz.isAgg3
  z3 := Tryz.sizeOf3
  v3 := Tryz.zeroValue3
  t4 := Tryz.underlying4
  a4 := Tryz.isAgg4
  z4 := Tryz.sizeOf4
  v4 := Tryz.zeroValue4
  t5 := Tryz.underlying5
  a5 := Tryz.isAgg5
  z5 := Tryz.sizeOf5
  v5 := Tryz.zeroValue5
  t9 := Tryz.underlying9
  a9 := Tryz.isAgg9
  z9 := Tryz.sizeOf9
  v9 := Tryz.zeroValue9
  t21 := Tryz.underlying21
  a21 := Tryz.isAgg21
  z21 := Tryz.sizeOf21
  v21 := Tryz.zeroValue21
  t31 := Tryz.underlying143
  a31 := Tryz.isAgg143
  z31 := Tryz.sizeOf143
  v31 := Tryz.zeroValue143
  t46 := Tryz.underlying60
  a46 := Tryz.isAgg60
  z46 := Tryz.sizeOf60
  v46 := Tryz.zeroValue60
  t51 := Tryz.underlying190
  a51 := Tryz.isAgg190
  z51 := Tryz.sizeOf190
  v51 := Tryz.zeroValue190
  t105 := Tryz.underlying195
  a105 := Tryz.isAgg195
  z105 := Tryz.sizeOf195
  v105 := Tryz.zeroValue195
  t119 := Tryz.underlying182
  a119 := Tryz.isAgg182
  z119 := Tryz.sizeOf182
  t138 := Tryz.underlying213
  a138 := Tryz.isAgg213
  z138 := Tryz.sizeOf213
  v138 := Tryz.zeroValue213
  t139 := Tryz.underlying214
  a139 := Tryz.isAgg214
  z139 := Tryz.sizeOf214
  v139 := Tryz.zeroValue214
  t146 := Tryz.underlying208
  a146 := Tryz.isAgg208
  z146 := Tryz.sizeOf208
  v146 := Tryz.zeroValue208
  g1 := by kernel_rfl
  g3 := by kernel_rfl
  g4 := by kernel_rfl }
open Go.RowKit Go.Lib in
theorem Tryz.strings_Split (s sep : ByteArray) (m : Int) (w : World) (hs : s.size < 4294967281) (hm : w.cell? ⟨2, 0, none⟩ = some (.int .i64 m)) (h1 : 1 ≤ sep.size) :
    Calls Tryz.prog 107 #[.string s, .string sep] w fun e w' =>
      e = .returned (.slice (some ⟨w.heap.size, 0, none⟩) (Lib.countB s sep + 1) (Lib.countB s sep + 1)) ∧ w' = w.alloc (.cells ((Lib.splitB sep 0 (Lib.countB s sep) s).map Value.string).toArray 9) := Any.strings_Split Tryz.lays146 (by kernel_rfl) s sep m w hs hm h1
def Tryz.lays157_ren : Go.Shelf.Ren := ⟨fun | 157 => 109 | 229 => 117 | 199 => 118 | 261 => 123 | 311 => 131 | 312 => 132 | n => n, fun | 9 => 9 | 31 => 143 | 3 => 3 | 5 => 5 | 4 => 4 | 119 => 182 | 0 => 0 | 40 => 184 | 152 => 187 | 21 => 21 | 154 => 189 | 51 => 190 | 141 => 192 | 196 => 200 | 193 => 197 | 198 => 203 | 49 => 201 | 194 => 198 | 201 => 206 | 226 => 210 | 46 => 60 | 227 => 211 | n => n, fun | 0 => 0 | 6 => 1 | n => n⟩
theorem Tryz.lays157 : Go.Proofs.Lays.n157 Tryz.prog Tryz.lays157_ren := {
  mixed := by kernel_rfl
  f157 := Tryz.func109.trans (congrArg some (by kernel_rfl))
  f199 := Tryz.func118.trans (congrArg some (by kernel_rfl))
  f229 := Tryz.func117.trans (congrArg some (by kernel_rfl))
  f261 := Tryz.func123.trans (congrArg some (by kernel_rfl))
  f311 := Tryz.func131.trans (congrArg some (by kernel_rfl))
  f312 := Tryz.func132.trans (congrArg some (by kernel_rfl))
  t0 := Tryz.underlying0
  a0 := Tryz.isAgg0
  z0 := Tryz.sizeOf0
  v0 := Tryz.zeroValue0
  t3 := Tryz.underlying3
  a3 := Tryz.isAgg3
  z3 := Tryz.sizeOf3
  v3 := Tryz.zeroValue3
  t4 := Tryz.underlying4
  a4 := Tryz.isAgg4
  z4 := Tryz.sizeOf4
  v4 := Tryz.zeroValue4
  t5 := Tryz.underlying5
  a5 := Tryz.isAgg5
  z5 := Tryz.sizeOf5
  v5 := Tryz.zeroValue5
  t9 := Tryz.underlying9
  a9 := Tryz.isAgg9
  z9 := Tryz.sizeOf9
  v9 := Tryz.zeroValue9
  t21 := Tryz.underlying21
  a21 := Tryz.isAgg21
  z21 := Tryz.sizeOf21
  v21 := Tryz.zeroValue21
  t31 := Tryz.underlying143
  a31 := Tryz.isAgg143
  z31 := Tryz.sizeOf143
  v31 := Tryz.zeroValue143
  t40 := Tryz.underlying184
  a40 := Tryz.isAgg184
  z40 := Tryz.sizeOf184
  v40 := Tryz.zeroValue184
  t46 := Tryz.underlying60
  a46 := Tryz.isAgg60
  z46 := Tryz.sizeOf60
  v46 := Tryz.zeroValue60
  t49 := Tryz.underlying201
  a49 := Tryz.isAgg201
  z49 := Tryz.sizeOf201
  v49 := Tryz.zeroValue201
  t51 := Tryz.underlying190
  a51 := Tryz.isAgg190
  z51 := Tryz.sizeOf190
  v51 := Tryz.zeroValue190
  t119 := Tryz.underlying182
  a119 := Tryz.isAgg182
  z119 := Tryz.sizeOf182
  t141 := Tryz.underlying192
  a141 := Tryz.isAgg192
  z141 := Tryz.sizeOf192
  v141 := Tryz.zeroValue192
  t152 := Tryz.underlying187
  a152 := Tryz.isAgg187
  z152 := Tryz.sizeOf187
  v152 := Tryz.zeroValue187
  t154 := Tryz.underlying189
  a154 := Tryz.isAgg189
  z154 := Tryz.sizeOf189
  v154 := Tryz.zeroValue189
  t193 := Tryz.underlying197
  a193 := Tryz.isAgg197
  z193 := Tryz.sizeOf197
  v193 := Tryz.zeroValue197
  t194 := Tryz.underlying198
  a194 := Tryz.isAgg198
  z194 := Tryz.sizeOf198
  v194 := Tryz.zeroValue198
  t196 := Tryz.underlying200
  a196 := Tryz.isAgg200
  z196 := Tryz.sizeOf200
  v196 := Tryz.zeroValue200
  t198 := Tryz.underlying203
  a198 := Tryz.isAgg203
  z198 := Tryz.sizeOf203
  v198 := Tryz.zeroValue203
  t201 := Tryz.underlying206
  a201 := Tryz.isAgg206
  z201 := Tryz.sizeOf206
  v201 := Tryz.zeroValue206
  t226 := Tryz.underlying210
  a226 := Tryz.isAgg210
  z226 := Tryz.sizeOf210
  v226 := Tryz.zeroValue210
  t227 := Tryz.underlying211
  a227 := Tryz.isAgg211
  z227 := Tryz.sizeOf211
  v227 := Tryz.zeroValue211
  g0 := by kernel_rfl
  g6 := by kernel_rfl }
/-- The white-space fields of a text of ASCII; the table's cells are asked one by one. -/
theorem Tryz.strings_Fields (s : ByteArray) (w : World) (hs : s.size < 4294967281) (hascii : ∀ (j : Nat) b, s.data.toList[j]? = some b → b.toNat < 128)
    (hT : ∀ c : Nat, c < 256 → w.cell? ⟨0, c, none⟩ = some (.int .u8 (if Lib.isSp (UInt8.ofNat c) then 1 else 0))) :
    Calls Tryz.prog 109 #[.string s] w fun e w' =>
      e = .returned (.slice (some ⟨w.heap.size, 0, none⟩) (Lib.fields s.data.toList).length (Lib.fields s.data.toList).length) ∧ w' = w.alloc (.cells ((Lib.fields s.data.toList).map fun l => Value.string ⟨l.toArray⟩).toArray 9) :=
  Any.strings_Fields_core Tryz.lays157 (by kernel_rfl) s w hs hascii hT
def Tryz.lays109_ren : Go.Shelf.Ren := ⟨fun | 109 => 116 | n => n, fun | 31 => 143 | 9 => 9 | 3 => 3 | 0 => 0 | 4 => 4 | n => n, fun | n => n⟩
theorem Tryz.lays109 : Go.Proofs.Lays.n109 Tryz.prog Tryz.lays109_ren := {
  mixed := by kernel_rfl
  f109 := Tryz.func116.trans (congrArg some (by kernel_rfl))
  t0 := Tryz.underlying0
  a0 := Tryz.isAgg0
  z0 := Tryz.sizeOf0
  v0 := Tryz.zeroValue0
  t3 := Tryz.underlying3
  a3 := Tryz.isAgg3
  z3 := Tryz.sizeOf3
  v3 := Tryz.zeroValue3
  t4 := Tryz.underlying4
  a4 := Tryz.isAgg4
  z4 := Tryz.sizeOf4
  v4 := Tryz.zeroValue4
  t9 := Tryz.underlying9
  a9 := Tryz.isAgg9
  z9 := Tryz.sizeOf9
  v9 := Tryz.zeroValue9
  t31 := Tryz.underlying143
  a31 := Tryz.isAgg143
  z31 := Tryz.sizeOf143
  v31 := Tryz.zeroValue143 }
open Go.Lib in
theorem Tryz.slices_Index_string (b off n c : Nat) (zs : List ByteArray) (x : ByteArray) (w : World) (hz : n ≤ zs.length) (hbig : n ≤ 9223372036854775807) (hc : ∀ j, j < zs.length → w.cell? ⟨b, off + j, none⟩ = some (.string (zs.getD j ByteArray.empty))) :
    Calls Tryz.prog 116 #[.slice (some ⟨b, off, none⟩) n c, .string x] w fun e w' => e = .returned (.int .i64 (Lib.idxOfS (zs.take n) x)) ∧ w' = w := Any.slices_Index_string Tryz.lays109 b off n c zs x w hz hbig hc
end Go.Proofs
namespace Go.Proofs.YteabkmelnoefiaaGreatDoor
open Go.RowKit
theorem infoS : (Tryz.prog.info? 9).map (fun i => (i.zero, i.size, i.bytes)) = some (some (.string ⟨#[]⟩), 1, 16) := by kernel_rfl
def txts (ls : List (List UInt8)) : List Value := ls.map fun l => .string ⟨l.toArray⟩
theorem txts_append (l r : List (List UInt8)) : txts (l ++ r) = txts l ++ txts r := by simp [txts]
theorem txts_length (l : List (List UInt8)) : (txts l).length = l.length := by simp [txts]
/-- 'v' is a slice of texts of the call's own (the call began in 'w'), it holds 'ls'; nothing that was there has changed. -/
def OwnsT (w wr : World) (v : Value) (ls : List (List UInt8)) : Prop := wr.ownsRow w.heap.size 9 1 v ls.length (txts ls) ∧ Below w.heap.size w wr
theorem OwnsT.nil (w : World) : OwnsT w w (.slice none 0 0) [] := ⟨World.ownsRow_nil _ _ _ _, Below.refl _ _⟩
/-- .. also where other memory has been made since. -/
theorem OwnsT.below {w W W' : World} {v : Value} {ls : List (List UInt8)} (h : OwnsT w W v ls) (hb : Below W.heap.size W W') : OwnsT w W' v ls :=
  ⟨h.1.kept (row := none) ⟨hb.os, hb.tape, hb.output, hb.size, fun k hk _ => hb.block k hk⟩ (by cases hv : v.ownBlock <;> simp), h.2.trans (hb.mono h.2.size)⟩
/-- One text, just laid in a block, pushed behind. -/
theorem wp_pushT {ops : Array Oper} {rest : List Oper} {o : Oper} {a : Act} {Q : Exit → Act → World → Prop} (hgd : o.guard = none) (sl x : Operand)
    (ho : o.op = .call { callee := .builtin .append, args := #[sl, x], argTypes := #[143, 143] })
    {W w : World} (ls r : List (List UInt8)) {v : Value} (hown : OwnsT w W v ls)
    (hs : a.eval sl = v) (hx : a.eval x = .slice (some ⟨W.heap.size, 0, none⟩) r.length r.length) (hl : ls.length + r.length ≤ 1073741824)
    (h : ∀ v' w', OwnsT w w' v' (ls ++ r) → wpList Tryz.prog ops Q rest (a.put o.dst v') w') :
    wpList Tryz.prog ops Q (o :: rest) a (W.alloc (.cells (txts r).toArray 9)) := by
  obtain ⟨i0, hi, hz0, hz1, hz2⟩ := info_parts infoS
  obtain ⟨hown, hb⟩ := hown
  have hsz := hb.size
  refine wpList_append_own _ hgd sl x 143 ho w.heap.size 9 i0 (.string ⟨#[]⟩) 1 16 Tryz.underlying143 hi hz0 hz1 hz2 rfl (by decide) v ls.length (txts ls) hs (hown.alloc _) ⟨W.heap.size, 0, none⟩ r.length r.length (txts r) hx (by simp [txts]) ?_ ?_ ?_ ?_ ?_ ?_
  · exact new_cells W _ _
  · intro u hu
    simp only [txts, List.mem_map] at hu
    obtain ⟨b, _, rfl⟩ := hu
    rfl
  · unfold maxLen; omega
  · omega
  · simp; omega
  · intro v' w' hown' hgrow _
    refine h v' w' ⟨?_, ?_⟩
    · rw [txts_append, List.length_append]; exact hown'
    · exact (hb.alloc hsz _).grown hgrow (by simp; omega) (fun k hk => (hown.lt k hk).1)
end Go.Proofs.YteabkmelnoefiaaGreatDoor
namespace Go.Proofs.YteabkmelnoefiaaGreatDoor
open Go.RowKit
/-- 'v' is a slice that reads as the texts 'ls'. -/
def Reads (W : World) (v : Value) (ls : List (List UInt8)) : Prop := ∃ (p : Option Addr) (cap : Nat) (A : Nat → Addr), v = .slice p ls.length cap ∧
  (∀ k, k < ls.length → ∀ W' : World, (Instr.indexAt 143 v (.int .i64 (k : Int))).run Tryz.prog W' = .ok (.pointer (some (A k))) W') ∧
  ∀ k (h : k < ls.length), W.cell? (A k) = some (.string ⟨ls[k].toArray⟩)
set_option maxRecDepth 100000 in
theorem index_at (x : Addr) (n cap k : Nat) (hk : k < n) (W : World) : (Instr.indexAt 143 (.slice (some x) n cap) (.int .i64 (k : Int))).run Tryz.prog W = .ok (.pointer (some (x.add k))) W := by
  have hs : (sizeOf (Tryz.prog.elem 143)).run Tryz.prog W = .ok 1 W := Tryz.sizeOf9 W
  have e := run_indexAt_slice (P := Tryz.prog) W 143 x n cap .i64 (k : Int) Tryz.underlying143
  rw [if_pos (by omega), hs] at e
  simpa [Result.andThen] using e
theorem reads_of_cells (W : World) (x : Addr) (cap : Nat) (ls : List (List UInt8)) (h : ∀ j u, (txts ls)[j]? = some u → W.cell? (x.add j) = some u) : Reads W (.slice (some x) ls.length cap) ls :=
  ⟨_, cap, fun k => x.add k, rfl, fun k hk W' => index_at x ls.length cap k hk W', fun k hk => h k _ (by simp [txts, hk])⟩
theorem OwnsT.reads {w W : World} {v : Value} {ls : List (List UInt8)} (h : OwnsT w W v ls) : Reads W v ls := by
  have hc := fun g hg => h.1.cells (g := g) hg
  rcases h.1.2 with ⟨rfl, h0⟩ | ⟨g, cap, cur, rfl, _⟩
  · obtain rfl : ls = [] := List.length_eq_zero_iff.1 h0
    exact ⟨none, 0, fun _ => ⟨0, 0, none⟩, rfl, fun k hk => absurd hk (by simp), fun k hk => absurd hk (by simp)⟩
  · exact reads_of_cells W _ cap ls (hc g rfl)
theorem Reads.below {W W' : World} {v : Value} {ls : List (List UInt8)} (h : Reads W v ls) (hb : Below W.heap.size W W') : Reads W' v ls := by
  obtain ⟨p, cap, A, e, hi, hc⟩ := h
  exact ⟨p, cap, A, e, hi, fun k hk => (hb.cell (block_lt_of_cell (hc k hk))).trans (hc k hk)⟩
theorem take_succ_ne {ls : List (List UInt8)} (k : Nat) (h : k < ls.length) : ls.take (k + 1) = ls.take k ++ [ls[k]] := by
  rw [List.take_succ_eq_append_getElem h]
theorem own_reads {W : World} {b : Nat} {v : Value} {ls : List (List UInt8)} (h : W.ownsRow b 9 1 v ls.length (txts ls)) : Reads W v ls := by
  have hc := fun g hg => h.cells (g := g) hg
  rcases h.2 with ⟨rfl, h0⟩ | ⟨g, cap, cur, rfl, _⟩
  · obtain rfl : ls = [] := List.length_eq_zero_iff.1 h0
    exact ⟨none, 0, fun _ => ⟨0, 0, none⟩, rfl, fun k hk => absurd hk (by simp), fun k hk => absurd hk (by simp)⟩
  · exact reads_of_cells W _ cap ls (hc g rfl)
/-- A row stays while a cell of another block is written. -/
theorem set_kept {W : World} {b : Nat} {e : TypeId} {v : Value} {n : Nat} {xs : List Value} (h : W.ownsRow b e 1 v n xs) {g : Nat} (hg : v.ownBlock = some g → False) (k : Nat) (u : Value) : (W.setCell ⟨g, k, none⟩ u).ownsRow b e 1 v n xs :=
  h.kept (row := some g) ⟨rfl, rfl, rfl, by simp [World.setCell], fun j _ hj => Below.heap_setCell _ _ _ _ (fun e => hj (by simp [e]))⟩ (.inr hg)
end Go.Proofs.YteabkmelnoefiaaGreatDoor
namespace Go.Proofs.YteabkmelnoefiaaGreatDoor.U
open Go.RowKit
theorem txt_index (g n cap k : Nat) (hk : k < n) (W : World) : (Instr.indexAt 143 (.slice (some ⟨g, 0, none⟩) n cap) (.int .i64 (k : Int))).run Tryz.prog W = .ok (.pointer (some ⟨g, k, none⟩)) W := by
  have e0 : (⟨g, 0, none⟩ : Addr).add k = ⟨g, k, none⟩ := by unfold Addr.add; split <;> simp_all
  rw [index_at _ n cap k hk W, e0]
/-- A row of ten texts that was just laid. -/
def RowPost (v : Nat) (w : World) : Ending → World → Prop := fun e w' => ∃ g, e = .returned (.slice (some ⟨g, 0, none⟩) 10 10) ∧ Below w.heap.size w w' ∧ ∀ k, k < 10 → w'.cell? ⟨g, k, none⟩ = some (.string ⟨(Fsm.text k v).toArray⟩)
theorem row_laid (v : Nat) (hv : v < 16) (w : World) (C : Array Value) (h : C = (txts (Fsm.rowT v)).toArray) : RowPost v w (.returned (.slice (some ⟨w.heap.size, 0, none⟩) 10 10)) (w.alloc (.cells C 9)) := by
  subst h
  refine ⟨_, rfl, (Below.refl _ _).alloc (Nat.le_refl _) _, fun k hk => ?_⟩
  have h := new_cells w (txts (Fsm.rowT v)) 9 k (.string ⟨(Fsm.text k v).toArray⟩) (by simp [txts, Fsm.text_at k v hk hv])
  have e0 : (⟨w.heap.size, 0, none⟩ : Addr).add k = ⟨w.heap.size, k, none⟩ := by unfold Addr.add; split <;> simp_all
  rwa [e0] at h
theorem row_0 (w : World) : Calls Tryz.prog 81 #[.int .i64 0] w (RowPost 0 w) := by
  go_enter Tryz.func81, Tryz.ntmps81
  go_wp2_with fail
  go_ret
  exact row_laid 0 (by decide) w _ rfl
theorem row_1 (w : World) : Calls Tryz.prog 81 #[.int .i64 1] w (RowPost 1 w) := by
  go_enter Tryz.func81, Tryz.ntmps81
  go_wp2_with fail
  go_ret
  exact row_laid 1 (by decide) w _ rfl
theorem row_2 (w : World) : Calls Tryz.prog 81 #[.int .i64 2] w (RowPost 2 w) := by
  go_enter Tryz.func81, Tryz.ntmps81
  go_wp2_with fail
  go_ret
  exact row_laid 2 (by decide) w _ rfl
theorem row_3 (w : World) : Calls Tryz.prog 81 #[.int .i64 3] w (RowPost 3 w) := by
  go_enter Tryz.func81, Tryz.ntmps81
  go_wp2_with fail
  go_ret
  exact row_laid 3 (by decide) w _ rfl
theorem row_4 (w : World) : Calls Tryz.prog 81 #[.int .i64 4] w (RowPost 4 w) := by
  go_enter Tryz.func81, Tryz.ntmps81
  go_wp2_with fail
  go_ret
  exact row_laid 4 (by decide) w _ rfl
theorem row_5 (w : World) : Calls Tryz.prog 81 #[.int .i64 5] w (RowPost 5 w) := by
  go_enter Tryz.func81, Tryz.ntmps81
  go_wp2_with fail
  go_ret
  exact row_laid 5 (by decide) w _ rfl
theorem row_6 (w : World) : Calls Tryz.prog 81 #[.int .i64 6] w (RowPost 6 w) := by
  go_enter Tryz.func81, Tryz.ntmps81
  go_wp2_with fail
  go_ret
  exact row_laid 6 (by decide) w _ rfl
theorem row_7 (w : World) : Calls Tryz.prog 81 #[.int .i64 7] w (RowPost 7 w) := by
  go_enter Tryz.func81, Tryz.ntmps81
  go_wp2_with fail
  go_ret
  exact row_laid 7 (by decide) w _ rfl
theorem row_8 (w : World) : Calls Tryz.prog 81 #[.int .i64 8] w (RowPost 8 w) := by
  go_enter Tryz.func81, Tryz.ntmps81
  go_wp2_with fail
  go_ret
  exact row_laid 8 (by decide) w _ rfl
theorem row_9 (w : World) : Calls Tryz.prog 81 #[.int .i64 9] w (RowPost 9 w) := by
  go_enter Tryz.func81, Tryz.ntmps81
  go_wp2_with fail
  go_ret
  exact row_laid 9 (by decide) w _ rfl
theorem row_10 (w : World) : Calls Tryz.prog 81 #[.int .i64 10] w (RowPost 10 w) := by
  go_enter Tryz.func81, Tryz.ntmps81
  go_wp2_with fail
  go_ret
  exact row_laid 10 (by decide) w _ rfl
theorem row_11 (w : World) : Calls Tryz.prog 81 #[.int .i64 11] w (RowPost 11 w) := by
  go_enter Tryz.func81, Tryz.ntmps81
  go_wp2_with fail
  go_ret
  exact row_laid 11 (by decide) w _ rfl
theorem row_12 (w : World) : Calls Tryz.prog 81 #[.int .i64 12] w (RowPost 12 w) := by
  go_enter Tryz.func81, Tryz.ntmps81
  go_wp2_with fail
  go_ret
  exact row_laid 12 (by decide) w _ rfl
theorem row_13 (w : World) : Calls Tryz.prog 81 #[.int .i64 13] w (RowPost 13 w) := by
  go_enter Tryz.func81, Tryz.ntmps81
  go_wp2_with fail
  go_ret
  exact row_laid 13 (by decide) w _ rfl
theorem row_14 (w : World) : Calls Tryz.prog 81 #[.int .i64 14] w (RowPost 14 w) := by
  go_enter Tryz.func81, Tryz.ntmps81
  go_wp2_with fail
  go_ret
  exact row_laid 14 (by decide) w _ rfl
theorem row_15 (w : World) : Calls Tryz.prog 81 #[.int .i64 15] w (RowPost 15 w) := by
  go_enter Tryz.func81, Tryz.ntmps81
  go_wp2_with fail
  go_ret
  exact row_laid 15 (by decide) w _ rfl
theorem row_any (v : Nat) (hv : v < 16) (w : World) : Calls Tryz.prog 81 #[.int .i64 (v : Int)] w (RowPost v w) := by
  match v, hv with
  | 0, _ => exact row_0 w
  | 1, _ => exact row_1 w
  | 2, _ => exact row_2 w
  | 3, _ => exact row_3 w
  | 4, _ => exact row_4 w
  | 5, _ => exact row_5 w
  | 6, _ => exact row_6 w
  | 7, _ => exact row_7 w
  | 8, _ => exact row_8 w
  | 9, _ => exact row_9 w
  | 10, _ => exact row_10 w
  | 11, _ => exact row_11 w
  | 12, _ => exact row_12 w
  | 13, _ => exact row_13 w
  | 14, _ => exact row_14 w
  | 15, _ => exact row_15 w
  | n + 16, h => exact absurd h (by omega)
theorem row_none (v : Int) (hv : ¬(0 ≤ v ∧ v ≤ 15)) (w : World) : Calls Tryz.prog 81 #[.int .i64 v] w fun e w' => e = .returned (.slice none 0 0) ∧ w = w' := by
  have n0 : (v == 0) = false := by rw [beq_eq_false_iff_ne]; omega
  have n1 : (v == 1) = false := by rw [beq_eq_false_iff_ne]; omega
  have n2 : (v == 2) = false := by rw [beq_eq_false_iff_ne]; omega
  have n3 : (v == 3) = false := by rw [beq_eq_false_iff_ne]; omega
  have n4 : (v == 4) = false := by rw [beq_eq_false_iff_ne]; omega
  have n5 : (v == 5) = false := by rw [beq_eq_false_iff_ne]; omega
  have n6 : (v == 6) = false := by rw [beq_eq_false_iff_ne]; omega
  have n7 : (v == 7) = false := by rw [beq_eq_false_iff_ne]; omega
  have n8 : (v == 8) = false := by rw [beq_eq_false_iff_ne]; omega
  have n9 : (v == 9) = false := by rw [beq_eq_false_iff_ne]; omega
  have n10 : (v == 10) = false := by rw [beq_eq_false_iff_ne]; omega
  have n11 : (v == 11) = false := by rw [beq_eq_false_iff_ne]; omega
  have n12 : (v == 12) = false := by rw [beq_eq_false_iff_ne]; omega
  have n13 : (v == 13) = false := by rw [beq_eq_false_iff_ne]; omega
  have n14 : (v == 14) = false := by rw [beq_eq_false_iff_ne]; omega
  have n15 : (v == 15) = false := by rw [beq_eq_false_iff_ne]; omega
  clear hv
  go_enter Tryz.func81, Tryz.ntmps81
  go_wp2_with fail
  go_ret
  exact ⟨rfl, rfl⟩
end Go.Proofs.YteabkmelnoefiaaGreatDoor.U
namespace Go.Proofs.YteabkmelnoefiaaGreatDoor.U
open Go.RowKit
/-- The library's two variables that the program's step reads. -/
structure Tab (w : World) : Prop where
  space : ∀ c : Nat, c < 256 → w.cell? ⟨0, c, none⟩ = some (.int .u8 (if Lib.isSp (UInt8.ofNat c) then 1 else 0))
  most : ∃ m, w.cell? ⟨2, 0, none⟩ = some (.int .i64 m)
theorem Tab.below {w w' : World} (h : Tab w) (hb : Below w.heap.size w w') : Tab w' := by
  obtain ⟨m, hm⟩ := h.most
  exact ⟨fun c hc => (hb.cell (block_lt_of_cell (h.space c hc))).trans (h.space c hc), m, (hb.cell (block_lt_of_cell hm)).trans hm⟩
theorem isCell_any (s v : Int) (w : World) : Calls Tryz.prog 93 #[.int .i64 s, .int .i64 v] w fun e w' => e = .returned (.bool (decide (0 ≤ s ∧ s ≤ 9 ∧ 0 ≤ v ∧ v ≤ 15))) ∧ w' = w := by
  by_cases h1 : 0 ≤ s
  · by_cases h2 : s < 10
    · by_cases h3 : 0 ≤ v
      · by_cases h4 : v < 16
        · have e : decide (0 ≤ s ∧ s ≤ 9 ∧ 0 ≤ v ∧ v ≤ 15) = true := decide_eq_true (by omega)
          rw [e]
          clear e
          go_enter Tryz.func93, Tryz.ntmps93
          go_wp2_with fail
          go_ret
          exact ⟨rfl, rfl⟩
        · have e : decide (0 ≤ s ∧ s ≤ 9 ∧ 0 ≤ v ∧ v ≤ 15) = false := decide_eq_false (by omega)
          have q : decide (v < 16) = false := decide_eq_false h4
          rw [e]
          clear e
          go_enter Tryz.func93, Tryz.ntmps93
          go_wp2_with fail
          go_ret
          exact ⟨rfl, rfl⟩
      · have e : decide (0 ≤ s ∧ s ≤ 9 ∧ 0 ≤ v ∧ v ≤ 15) = false := decide_eq_false (by omega)
        have q : decide (0 ≤ v) = false := decide_eq_false h3
        rw [e]
        clear e
        go_enter Tryz.func93, Tryz.ntmps93
        go_wp2_with fail
        go_ret
        exact ⟨rfl, rfl⟩
    · have e : decide (0 ≤ s ∧ s ≤ 9 ∧ 0 ≤ v ∧ v ≤ 15) = false := decide_eq_false (by omega)
      have q : decide (s < 10) = false := decide_eq_false h2
      rw [e]
      clear e
      go_enter Tryz.func93, Tryz.ntmps93
      go_wp2_with fail
      go_ret
      exact ⟨rfl, rfl⟩
  · have e : decide (0 ≤ s ∧ s ≤ 9 ∧ 0 ≤ v ∧ v ≤ 15) = false := decide_eq_false (by omega)
    have q : decide (0 ≤ s) = false := decide_eq_false h1
    rw [e]
    clear e
    go_enter Tryz.func93, Tryz.ntmps93
    go_wp2_with fail
    go_ret
    exact ⟨rfl, rfl⟩
theorem words_any (v : Nat) (hv : v < 16) (w : World) (T : Tab w) : Calls Tryz.prog 95 #[.int .i64 (v : Int)] w (RowPost v w) := by
  have hP := fun W => prow_any v hv W
  have hF := fun W (t : Tab W) => Tryz.strings_Fields ⟨(Fsm.rowB v).toArray⟩ W (by rw [sz]; have := Fsm.rowB_short v hv; omega) (fun j b h => Fsm.rowB_ascii v hv b (List.mem_of_getElem? h)) t.space
  have hl := Fsm.row_length v hv
  simp only [Fsm.rowB_fields v hv, hl] at hF
  have HP := Lib.hid hP
  have HF := Lib.hid hF
  clear hP hF
  generalize (⟨(Fsm.rowB v).toArray⟩ : ByteArray) = R at *
  have HV := Lib.hid hv
  clear hv hl
  go_enter Tryz.func95, Tryz.ntmps95
  go_wp2_with (first | (go_at_call 110; refine (HP.out _).mono ?_; rintro e w1 ⟨rfl, rfl⟩) | (go_at_call 109; refine (HF.out _ T).mono ?_; rintro e w2 ⟨rfl, rfl⟩))
  go_ret
  exact row_laid v HV.out _ _ rfl
theorem digit_any (b : UInt8) (t : Nat) (ht : b.toNat = 48 + t) (h9 : t ≤ 9) (c : ByteArray) (hc : c = ⟨#[b]⟩) (w : World) : Calls Tryz.prog 106 #[.string c] w fun e w' => e = .returned (.int .i64 (t : Int)) ∧ w' = w := by
  have h1 : c.size = 1 := by subst hc; rfl
  have h0 : ∀ h : 0 < c.size, (c[0]'h).toNat = 48 + t := by subst hc; intro h; exact ht
  clear hc ht
  go_enter Tryz.func106, Tryz.ntmps106
  go_wp2_with fail
  go_ret
  refine ⟨?_, rfl⟩
  have := h0 (by omega)
  simp
  omega
theorem names_cells (w : World) (j : Nat) (h : j < Fsm.names.length) : (w.alloc (.cells (Fsm.names.map Value.string).toArray 9)).cell? ⟨w.heap.size, 0 + j, none⟩ = some (.string (Fsm.names.getD j ByteArray.empty)) := by
  have := new_cells w (Fsm.names.map Value.string) 9 j (.string (Fsm.names.getD j ByteArray.empty)) (by simp [List.getD, h])
  rwa [add_at] at this
theorem paction_any (x : ByteArray) (w : World) : Calls Tryz.prog 108 #[.string x] w fun e w' => e = .returned (.int .i64 (Lib.idxOfS Fsm.names x)) ∧ Below w.heap.size w w' := by
  have hB := (Below.refl w.heap.size w).alloc (Nat.le_refl _) (.cells (Fsm.names.map Value.string).toArray 9)
  have hI := Tryz.slices_Index_string w.heap.size 0 14 14 Fsm.names x _ (by decide) (by omega) (names_cells w)
  have HB := Lib.hid hB
  have HI := Lib.hid hI
  clear hB hI
  go_enter Tryz.func108, Tryz.ntmps108
  go_wp2_with (go_at_call 116; refine HI.out.mono ?_; rintro e w2 ⟨rfl, rfl⟩)
  go_ret
  exact ⟨rfl, HB.out⟩
end Go.Proofs.YteabkmelnoefiaaGreatDoor.U
