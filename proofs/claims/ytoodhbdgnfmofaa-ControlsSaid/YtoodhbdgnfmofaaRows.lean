/-
  No cell of these rows narrows 'for every input' (looked for: loops, veiled, ifaces, maps, wideKeys, modest, calm, conditions, laid).
  DERIVED. THE GIVEN ROWS OF THIS SEAT. 5 by the template 'for every input the law returns true; each argument reads behind the call as it read before'; 0 by the template 'total and deterministic' (their statements: YtoodhbdgnfmofaaTotals.lean).
  GIVEN WITH THE SEED: the statements are not yours to turn. If you find one false, say at which input.
  Laid BY PROGRAM, IN A SANDBOX (cutbox-rows.mjs): the forced cells as the released guide's own fill.sh prints them over the translation a042fa0b07c13af6… (all of the seat's roots in one cut). By AI agents, Wed Nov 11 2026. No macro, syntax, notation, axiom, sorry.
-/
import Derived.Test.YtoodhbdgnfmofaaChecked
import GoSem.Claim
import GoSem.ClaimJoined
import GoSem.ClaimMapViews
import Derived.JoinedTies
import Derived.KernelRfl
namespace Go.Proofs.Ytoodhbdgnfmofaa
/- THE CELL 'sum', in the pinned program and in every row, IS THE sha256 OF THE DUMP (.gsa) THAT YtoodhbdgnfmofaaProg.lean LOADS. Nothing in Lean hashes anything: it is a label: what it is worth is what the hold of that sum in a sandbox is worth. -/
noncomputable def Try.pinned : Pinned := { name := "ytoodhbdgnfmofaa", sum := "a042fa0b07c13af6e901ef2a0caa7c14b394c6e2006c052c9f104e8a26b30a2c", checked := Try.checked }
namespace Rows
def none {H : Type} : Left H := { results := [], args := [] }

/-- 'withylaw5.Controls': WHATEVER THE INPUT: true; the input reads as it did. -/
def controlsSpec : ChangeSpec := { name := "controls", fn := fun _ => fun
  | [d1, d2] => { results := [.lit (.bool true)], args := [d1, d2] }
  | _ => none }
def controlsRow : OpenClaim := { program := "ytoodhbdgnfmofaa", sum := "a042fa0b07c13af6e901ef2a0caa7c14b394c6e2006c052c9f104e8a26b30a2c", func := "withy/withylaw5.Controls", spec := "controls", inPlace := ["internal/abi.NoEscape"], unfollowed := true, recurses := true, apart := false }
def ControlsSaid : Prop := controlsRow.holds Try.pinned (OpenSpec.ofChange controlsSpec)

/-- ITS FALSE NEIGHBOUR: 'it returns false'. Refute it at one input. -/
def controlsWrong : ChangeSpec := { name := "controls", fn := fun _ => fun
  | [d1, d2] => { results := [.lit (.bool false)], args := [d1, d2] }
  | _ => none }
def ControlsWrongFalsely : Prop := controlsRow.holds Try.pinned (OpenSpec.ofChange controlsWrong)

/-- 'withylaw5.ControlBack': WHATEVER THE INPUT: true; the input reads as it did. -/
def controlBackSpec : ChangeSpec := { name := "controlBack", fn := fun _ => fun
  | [d1, d2] => { results := [.lit (.bool true)], args := [d1, d2] }
  | _ => none }
def controlBackRow : OpenClaim := { program := "ytoodhbdgnfmofaa", sum := "a042fa0b07c13af6e901ef2a0caa7c14b394c6e2006c052c9f104e8a26b30a2c", func := "withy/withylaw5.ControlBack", spec := "controlBack", inPlace := ["internal/abi.NoEscape"], unfollowed := true, recurses := true, apart := false }
def ControlBackSaid : Prop := controlBackRow.holds Try.pinned (OpenSpec.ofChange controlBackSpec)

/-- ITS FALSE NEIGHBOUR: 'it returns false'. Refute it at one input. -/
def controlBackWrong : ChangeSpec := { name := "controlBack", fn := fun _ => fun
  | [d1, d2] => { results := [.lit (.bool false)], args := [d1, d2] }
  | _ => none }
def ControlBackWrongFalsely : Prop := controlBackRow.holds Try.pinned (OpenSpec.ofChange controlBackWrong)

/-- 'withylaw5.ControlLengths': WHATEVER THE INPUT: true; the input reads as it did. -/
def controlLengthsSpec : ChangeSpec := { name := "controlLengths", fn := fun _ => fun
  | [d1, d2, d3] => { results := [.lit (.bool true)], args := [d1, d2, d3] }
  | _ => none }
def controlLengthsRow : OpenClaim := { program := "ytoodhbdgnfmofaa", sum := "a042fa0b07c13af6e901ef2a0caa7c14b394c6e2006c052c9f104e8a26b30a2c", func := "withy/withylaw5.ControlLengths", spec := "controlLengths", inPlace := ["internal/abi.NoEscape"], unfollowed := true, recurses := true, apart := false }
def ControlLengthsSaid : Prop := controlLengthsRow.holds Try.pinned (OpenSpec.ofChange controlLengthsSpec)

/-- ITS FALSE NEIGHBOUR: 'it returns false'. Refute it at one input. -/
def controlLengthsWrong : ChangeSpec := { name := "controlLengths", fn := fun _ => fun
  | [d1, d2, d3] => { results := [.lit (.bool false)], args := [d1, d2, d3] }
  | _ => none }
def ControlLengthsWrongFalsely : Prop := controlLengthsRow.holds Try.pinned (OpenSpec.ofChange controlLengthsWrong)

/-- 'withylaw5.ControlKinds': WHATEVER THE INPUT: true; the input reads as it did. -/
def controlKindsSpec : ChangeSpec := { name := "controlKinds", fn := fun _ => fun
  | [d1, d2, d3] => { results := [.lit (.bool true)], args := [d1, d2, d3] }
  | _ => none }
def controlKindsRow : OpenClaim := { program := "ytoodhbdgnfmofaa", sum := "a042fa0b07c13af6e901ef2a0caa7c14b394c6e2006c052c9f104e8a26b30a2c", func := "withy/withylaw5.ControlKinds", spec := "controlKinds", inPlace := ["internal/abi.NoEscape"], unfollowed := true, recurses := true, apart := false }
def ControlKindsSaid : Prop := controlKindsRow.holds Try.pinned (OpenSpec.ofChange controlKindsSpec)

/-- ITS FALSE NEIGHBOUR: 'it returns false'. Refute it at one input. -/
def controlKindsWrong : ChangeSpec := { name := "controlKinds", fn := fun _ => fun
  | [d1, d2, d3] => { results := [.lit (.bool false)], args := [d1, d2, d3] }
  | _ => none }
def ControlKindsWrongFalsely : Prop := controlKindsRow.holds Try.pinned (OpenSpec.ofChange controlKindsWrong)

/-- 'withylaw5.ControlCodes': WHATEVER THE INPUT: true; the input reads as it did. -/
def controlCodesSpec : ChangeSpec := { name := "controlCodes", fn := fun _ => fun
  | [d1, d2, d3] => { results := [.lit (.bool true)], args := [d1, d2, d3] }
  | _ => none }
def controlCodesRow : OpenClaim := { program := "ytoodhbdgnfmofaa", sum := "a042fa0b07c13af6e901ef2a0caa7c14b394c6e2006c052c9f104e8a26b30a2c", func := "withy/withylaw5.ControlCodes", spec := "controlCodes", inPlace := ["internal/abi.NoEscape"], unfollowed := true, recurses := true, apart := false }
def ControlCodesSaid : Prop := controlCodesRow.holds Try.pinned (OpenSpec.ofChange controlCodesSpec)

/-- ITS FALSE NEIGHBOUR: 'it returns false'. Refute it at one input. -/
def controlCodesWrong : ChangeSpec := { name := "controlCodes", fn := fun _ => fun
  | [d1, d2, d3] => { results := [.lit (.bool false)], args := [d1, d2, d3] }
  | _ => none }
def ControlCodesWrongFalsely : Prop := controlCodesRow.holds Try.pinned (OpenSpec.ofChange controlCodesWrong)

/- THE SECOND FORM. 'bulk': how many values and letters a reading holds, each counted each time it is reached (what is shared counts as often as it is met; a slice's spare places count too). A statement '..UptoSaid' is the law's where the arguments, and the package variables that the reading takes, are together of bulk at most 1048576: NARROWER than '..Said'. Prove '..Said' where nothing that the law and all that it calls make is longer than what came in: it says more and counts as full. Else prove '..UptoSaid'. A law counts once. -/
mutual
def uptoBulk {H : Type} : DataW H → Nat
  | .lit (.string bytes) => bytes.length + 1
  | .lit _ => 1
  | .nil => 1
  | .ptr d => uptoBulk d + 1
  | .slice elems spare => uptoBulkAll elems + uptoBulkAll spare + 1
  | .agg parts => uptoBulkAll parts + 1
  | .iface _ d => uptoBulk d + 1
  | .map entries => uptoBulkEntries entries + 1
  | .held _ => 1
def uptoBulkAll {H : Type} : List (DataW H) → Nat
  | [] => 0
  | d :: r => uptoBulk d + uptoBulkAll r
def uptoBulkEntries {H : Type} : List (Lit × DataW H) → Nat
  | [] => 0
  | x :: r => uptoBulkEntry x + uptoBulkEntries r
def uptoBulkEntry {H : Type} : Lit × DataW H → Nat
  | (.string bytes, d) => bytes.length + uptoBulk d + 1
  | (_, d) => uptoBulk d + 1
 end
def uptoSmall : (H : Type) → List (DataW H) → Bool := fun _ ds => decide (uptoBulkAll ds ≤ 1048576)
def OpenSpec.upto (s : _root_.Go.ChangeSpec) : _root_.Go.OpenSpec := { _root_.Go.OpenSpec.ofChange s with cond := some uptoSmall }

/-- 'withylaw5.Controls', WHERE WHAT IT READS IS OF BULK AT MOST 1048576: true; the input reads as it did. -/
def controlsUptoRow : OpenClaim := { program := "ytoodhbdgnfmofaa", sum := "a042fa0b07c13af6e901ef2a0caa7c14b394c6e2006c052c9f104e8a26b30a2c", func := "withy/withylaw5.Controls", spec := "controls", inPlace := ["internal/abi.NoEscape"], unfollowed := true, recurses := true, apart := false, narrowed := true }
def ControlsUptoSaid : Prop := controlsUptoRow.holds Try.pinned (OpenSpec.upto controlsSpec)

/-- 'withylaw5.ControlBack', WHERE WHAT IT READS IS OF BULK AT MOST 1048576: true; the input reads as it did. -/
def controlBackUptoRow : OpenClaim := { program := "ytoodhbdgnfmofaa", sum := "a042fa0b07c13af6e901ef2a0caa7c14b394c6e2006c052c9f104e8a26b30a2c", func := "withy/withylaw5.ControlBack", spec := "controlBack", inPlace := ["internal/abi.NoEscape"], unfollowed := true, recurses := true, apart := false, narrowed := true }
def ControlBackUptoSaid : Prop := controlBackUptoRow.holds Try.pinned (OpenSpec.upto controlBackSpec)

/-- 'withylaw5.ControlLengths', WHERE WHAT IT READS IS OF BULK AT MOST 1048576: true; the input reads as it did. -/
def controlLengthsUptoRow : OpenClaim := { program := "ytoodhbdgnfmofaa", sum := "a042fa0b07c13af6e901ef2a0caa7c14b394c6e2006c052c9f104e8a26b30a2c", func := "withy/withylaw5.ControlLengths", spec := "controlLengths", inPlace := ["internal/abi.NoEscape"], unfollowed := true, recurses := true, apart := false, narrowed := true }
def ControlLengthsUptoSaid : Prop := controlLengthsUptoRow.holds Try.pinned (OpenSpec.upto controlLengthsSpec)

/-- 'withylaw5.ControlKinds', WHERE WHAT IT READS IS OF BULK AT MOST 1048576: true; the input reads as it did. -/
def controlKindsUptoRow : OpenClaim := { program := "ytoodhbdgnfmofaa", sum := "a042fa0b07c13af6e901ef2a0caa7c14b394c6e2006c052c9f104e8a26b30a2c", func := "withy/withylaw5.ControlKinds", spec := "controlKinds", inPlace := ["internal/abi.NoEscape"], unfollowed := true, recurses := true, apart := false, narrowed := true }
def ControlKindsUptoSaid : Prop := controlKindsUptoRow.holds Try.pinned (OpenSpec.upto controlKindsSpec)

/-- 'withylaw5.ControlCodes', WHERE WHAT IT READS IS OF BULK AT MOST 1048576: true; the input reads as it did. -/
def controlCodesUptoRow : OpenClaim := { program := "ytoodhbdgnfmofaa", sum := "a042fa0b07c13af6e901ef2a0caa7c14b394c6e2006c052c9f104e8a26b30a2c", func := "withy/withylaw5.ControlCodes", spec := "controlCodes", inPlace := ["internal/abi.NoEscape"], unfollowed := true, recurses := true, apart := false, narrowed := true }
def ControlCodesUptoSaid : Prop := controlCodesUptoRow.holds Try.pinned (OpenSpec.upto controlCodesSpec)

end Rows
end Go.Proofs.Ytoodhbdgnfmofaa
