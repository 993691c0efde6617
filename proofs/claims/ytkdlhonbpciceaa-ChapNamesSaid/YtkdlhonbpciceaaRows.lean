/-
  No cell of these rows narrows 'for every input' (looked for: loops, veiled, ifaces, maps, wideKeys, modest, calm, conditions, laid).
  DERIVED. THE GIVEN ROWS OF THIS SEAT. 5 by the template 'for every input the law returns true; each argument reads behind the call as it read before'; 0 by the template 'total and deterministic' (their statements: YtkdlhonbpciceaaTotals.lean).
  GIVEN WITH THE SEED: the statements are not yours to turn. If you find one false, say at which input.
  Laid BY PROGRAM, IN A SANDBOX (cutbox-rows.mjs): the forced cells as the released guide's own fill.sh prints them over the translation e7631c7a2ec8cb6a… (all of the seat's roots in one cut). By AI agents, Wed Nov 11 2026. No macro, syntax, notation, axiom, sorry.
-/
import Derived.Test.YtkdlhonbpciceaaChecked
import GoSem.Claim
import GoSem.ClaimJoined
import GoSem.ClaimMapViews
import Derived.JoinedTies
import Derived.KernelRfl
namespace Go.Proofs.Ytkdlhonbpciceaa
/- THE CELL 'sum', in the pinned program and in every row, IS THE sha256 OF THE DUMP (.gsa) THAT YtkdlhonbpciceaaProg.lean LOADS. Nothing in Lean hashes anything: it is a label: what it is worth is what the hold of that sum in a sandbox is worth. -/
noncomputable def Try.pinned : Pinned := { name := "ytkdlhonbpciceaa", sum := "e7631c7a2ec8cb6a810a6def3c0b1c87632cec5673949459d7e8702777474e34", checked := Try.checked }
namespace Rows
def none {H : Type} : Left H := { results := [], args := [] }

/-- 'withylaw6.Chaps': WHATEVER THE INPUT: true; the input reads as it did. -/
def chapsSpec : ChangeSpec := { name := "chaps", fn := fun _ => fun
  | [d1, d2] => { results := [.lit (.bool true)], args := [d1, d2] }
  | _ => none }
def chapsRow : OpenClaim := { program := "ytkdlhonbpciceaa", sum := "e7631c7a2ec8cb6a810a6def3c0b1c87632cec5673949459d7e8702777474e34", func := "withy/withylaw6.Chaps", spec := "chaps", apart := false }
def ChapsSaid : Prop := chapsRow.holds Try.pinned (OpenSpec.ofChange chapsSpec)

/-- ITS FALSE NEIGHBOUR: 'it returns false'. Refute it at one input. -/
def chapsWrong : ChangeSpec := { name := "chaps", fn := fun _ => fun
  | [d1, d2] => { results := [.lit (.bool false)], args := [d1, d2] }
  | _ => none }
def ChapsWrongFalsely : Prop := chapsRow.holds Try.pinned (OpenSpec.ofChange chapsWrong)

/-- 'withylaw6.ChapBack': WHATEVER THE INPUT: true; the input reads as it did. -/
def chapBackSpec : ChangeSpec := { name := "chapBack", fn := fun _ => fun
  | [d1, d2] => { results := [.lit (.bool true)], args := [d1, d2] }
  | _ => none }
def chapBackRow : OpenClaim := { program := "ytkdlhonbpciceaa", sum := "e7631c7a2ec8cb6a810a6def3c0b1c87632cec5673949459d7e8702777474e34", func := "withy/withylaw6.ChapBack", spec := "chapBack", apart := false }
def ChapBackSaid : Prop := chapBackRow.holds Try.pinned (OpenSpec.ofChange chapBackSpec)

/-- ITS FALSE NEIGHBOUR: 'it returns false'. Refute it at one input. -/
def chapBackWrong : ChangeSpec := { name := "chapBack", fn := fun _ => fun
  | [d1, d2] => { results := [.lit (.bool false)], args := [d1, d2] }
  | _ => none }
def ChapBackWrongFalsely : Prop := chapBackRow.holds Try.pinned (OpenSpec.ofChange chapBackWrong)

/-- 'withylaw6.ChapValues': WHATEVER THE INPUT: true; the input reads as it did. -/
def chapValuesSpec : ChangeSpec := { name := "chapValues", fn := fun _ => fun
  | [d1, d2, d3] => { results := [.lit (.bool true)], args := [d1, d2, d3] }
  | _ => none }
def chapValuesRow : OpenClaim := { program := "ytkdlhonbpciceaa", sum := "e7631c7a2ec8cb6a810a6def3c0b1c87632cec5673949459d7e8702777474e34", func := "withy/withylaw6.ChapValues", spec := "chapValues", apart := false }
def ChapValuesSaid : Prop := chapValuesRow.holds Try.pinned (OpenSpec.ofChange chapValuesSpec)

/-- ITS FALSE NEIGHBOUR: 'it returns false'. Refute it at one input. -/
def chapValuesWrong : ChangeSpec := { name := "chapValues", fn := fun _ => fun
  | [d1, d2, d3] => { results := [.lit (.bool false)], args := [d1, d2, d3] }
  | _ => none }
def ChapValuesWrongFalsely : Prop := chapValuesRow.holds Try.pinned (OpenSpec.ofChange chapValuesWrong)

/-- 'withylaw6.ChapCuts': WHATEVER THE INPUT: true; the input reads as it did. -/
def chapCutsSpec : ChangeSpec := { name := "chapCuts", fn := fun _ => fun
  | [d1, d2, d3] => { results := [.lit (.bool true)], args := [d1, d2, d3] }
  | _ => none }
def chapCutsRow : OpenClaim := { program := "ytkdlhonbpciceaa", sum := "e7631c7a2ec8cb6a810a6def3c0b1c87632cec5673949459d7e8702777474e34", func := "withy/withylaw6.ChapCuts", spec := "chapCuts", apart := false }
def ChapCutsSaid : Prop := chapCutsRow.holds Try.pinned (OpenSpec.ofChange chapCutsSpec)

/-- ITS FALSE NEIGHBOUR: 'it returns false'. Refute it at one input. -/
def chapCutsWrong : ChangeSpec := { name := "chapCuts", fn := fun _ => fun
  | [d1, d2, d3] => { results := [.lit (.bool false)], args := [d1, d2, d3] }
  | _ => none }
def ChapCutsWrongFalsely : Prop := chapCutsRow.holds Try.pinned (OpenSpec.ofChange chapCutsWrong)

/-- 'withylaw6.ChapNames': WHATEVER THE INPUT: true; the input reads as it did. -/
def chapNamesSpec : ChangeSpec := { name := "chapNames", fn := fun _ => fun
  | [d1, d2] => { results := [.lit (.bool true)], args := [d1, d2] }
  | _ => none }
def chapNamesRow : OpenClaim := { program := "ytkdlhonbpciceaa", sum := "e7631c7a2ec8cb6a810a6def3c0b1c87632cec5673949459d7e8702777474e34", func := "withy/withylaw6.ChapNames", spec := "chapNames", apart := false }
def ChapNamesSaid : Prop := chapNamesRow.holds Try.pinned (OpenSpec.ofChange chapNamesSpec)

/-- ITS FALSE NEIGHBOUR: 'it returns false'. Refute it at one input. -/
def chapNamesWrong : ChangeSpec := { name := "chapNames", fn := fun _ => fun
  | [d1, d2] => { results := [.lit (.bool false)], args := [d1, d2] }
  | _ => none }
def ChapNamesWrongFalsely : Prop := chapNamesRow.holds Try.pinned (OpenSpec.ofChange chapNamesWrong)

/- THE SECOND FORM. 'bulk': how many values and letters a reading holds, each counted each time it is reached (what is shared counts as often as it is met; a slice's spare places count too). A statement '..UptoSaid' is the law's where the arguments, and the package variables that the reading takes, are together of bulk at most 1048576: NARROWER than '..Said'. Prove '..Said' where nothing that the law and all that it calls make is longer than what came in: it says more and counts as full. Else prove '..UptoSaid'. A law counts once. -/
mutual
def uptoBulk {H : Type} : DataW H → Nat
  | .lit (.string bytes) => bytes.length + 1
  | .lit _ => 1
  | .nil => 1
  | .ptr d => uptoBulk d + 1
  | .slice elems spare => uptoBulkAll elems + uptoBulkAll spare + 1
  | .agg parts => uptoBulkAll parts + 1
  | .iface _ d => uptoBulk d + 1
  | .map entries => uptoBulkEntries entries + 1
  | .held _ => 1
def uptoBulkAll {H : Type} : List (DataW H) → Nat
  | [] => 0
  | d :: r => uptoBulk d + uptoBulkAll r
def uptoBulkEntries {H : Type} : List (Lit × DataW H) → Nat
  | [] => 0
  | x :: r => uptoBulkEntry x + uptoBulkEntries r
def uptoBulkEntry {H : Type} : Lit × DataW H → Nat
  | (.string bytes, d) => bytes.length + uptoBulk d + 1
  | (_, d) => uptoBulk d + 1
 end
def uptoSmall : (H : Type) → List (DataW H) → Bool := fun _ ds => decide (uptoBulkAll ds ≤ 1048576)
def OpenSpec.upto (s : _root_.Go.ChangeSpec) : _root_.Go.OpenSpec := { _root_.Go.OpenSpec.ofChange s with cond := some uptoSmall }

/-- 'withylaw6.Chaps', WHERE WHAT IT READS IS OF BULK AT MOST 1048576: true; the input reads as it did. -/
def chapsUptoRow : OpenClaim := { program := "ytkdlhonbpciceaa", sum := "e7631c7a2ec8cb6a810a6def3c0b1c87632cec5673949459d7e8702777474e34", func := "withy/withylaw6.Chaps", spec := "chaps", apart := false, narrowed := true }
def ChapsUptoSaid : Prop := chapsUptoRow.holds Try.pinned (OpenSpec.upto chapsSpec)

/-- 'withylaw6.ChapBack', WHERE WHAT IT READS IS OF BULK AT MOST 1048576: true; the input reads as it did. -/
def chapBackUptoRow : OpenClaim := { program := "ytkdlhonbpciceaa", sum := "e7631c7a2ec8cb6a810a6def3c0b1c87632cec5673949459d7e8702777474e34", func := "withy/withylaw6.ChapBack", spec := "chapBack", apart := false, narrowed := true }
def ChapBackUptoSaid : Prop := chapBackUptoRow.holds Try.pinned (OpenSpec.upto chapBackSpec)

/-- 'withylaw6.ChapValues', WHERE WHAT IT READS IS OF BULK AT MOST 1048576: true; the input reads as it did. -/
def chapValuesUptoRow : OpenClaim := { program := "ytkdlhonbpciceaa", sum := "e7631c7a2ec8cb6a810a6def3c0b1c87632cec5673949459d7e8702777474e34", func := "withy/withylaw6.ChapValues", spec := "chapValues", apart := false, narrowed := true }
def ChapValuesUptoSaid : Prop := chapValuesUptoRow.holds Try.pinned (OpenSpec.upto chapValuesSpec)

/-- 'withylaw6.ChapCuts', WHERE WHAT IT READS IS OF BULK AT MOST 1048576: true; the input reads as it did. -/
def chapCutsUptoRow : OpenClaim := { program := "ytkdlhonbpciceaa", sum := "e7631c7a2ec8cb6a810a6def3c0b1c87632cec5673949459d7e8702777474e34", func := "withy/withylaw6.ChapCuts", spec := "chapCuts", apart := false, narrowed := true }
def ChapCutsUptoSaid : Prop := chapCutsUptoRow.holds Try.pinned (OpenSpec.upto chapCutsSpec)

/-- 'withylaw6.ChapNames', WHERE WHAT IT READS IS OF BULK AT MOST 1048576: true; the input reads as it did. -/
def chapNamesUptoRow : OpenClaim := { program := "ytkdlhonbpciceaa", sum := "e7631c7a2ec8cb6a810a6def3c0b1c87632cec5673949459d7e8702777474e34", func := "withy/withylaw6.ChapNames", spec := "chapNames", apart := false, narrowed := true }
def ChapNamesUptoSaid : Prop := chapNamesUptoRow.holds Try.pinned (OpenSpec.upto chapNamesSpec)

end Rows
end Go.Proofs.Ytkdlhonbpciceaa
