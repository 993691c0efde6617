/-
  No cell of these rows narrows 'for every input' (looked for: loops, veiled, ifaces, maps, wideKeys, modest, calm, conditions, laid).
  DERIVED. THE GIVEN ROWS OF THIS SEAT. 4 by the template 'for every input the law returns true; each argument reads behind the call as it read before'; 0 by the template 'total and deterministic' (their statements: YtkbknmoheecplaaTotals.lean).
  GIVEN WITH THE SEED: the statements are not yours to turn. If you find one false, say at which input.
  Laid BY PROGRAM, IN A SANDBOX (cutbox-rows.mjs): the forced cells as the released guide's own fill.sh prints them over the translation 1442235fb9942379… (all of the seat's roots in one cut). By AI agents, Wed Nov 11 2026. No macro, syntax, notation, axiom, sorry.
-/
import Derived.Test.YtkbknmoheecplaaChecked
import GoSem.Claim
import GoSem.ClaimJoined
import GoSem.ClaimMapViews
import Derived.JoinedTies
import Derived.KernelRfl
namespace Go.Proofs.Ytkbknmoheecplaa
/- THE CELL 'sum', in the pinned program and in every row, IS THE sha256 OF THE DUMP (.gsa) THAT YtkbknmoheecplaaProg.lean LOADS. Nothing in Lean hashes anything: it is a label: what it is worth is what the hold of that sum in a sandbox is worth. -/
noncomputable def Try.pinned : Pinned := { name := "ytkbknmoheecplaa", sum := "1442235fb994237908dabc9724ee555614f3dc4eeaf185239f8341fde364c81c", checked := Try.checked }
namespace Rows
def none {H : Type} : Left H := { results := [], args := [] }

/-- 'withylaw4.OptsAll': WHATEVER THE INPUT: true; the input reads as it did. -/
def optsAllSpec : ChangeSpec := { name := "optsAll", fn := fun _ => fun
  | [d1, d2, d3] => { results := [.lit (.bool true)], args := [d1, d2, d3] }
  | _ => none }
def optsAllRow : OpenClaim := { program := "ytkbknmoheecplaa", sum := "1442235fb994237908dabc9724ee555614f3dc4eeaf185239f8341fde364c81c", func := "withy/withylaw4.OptsAll", spec := "optsAll", inPlace := ["internal/abi.NoEscape"], unfollowed := true, recurses := true, apart := false }
def OptsAllSaid : Prop := optsAllRow.holds Try.pinned (OpenSpec.ofChange optsAllSpec)

/-- ITS FALSE NEIGHBOUR: 'it returns false'. Refute it at one input. -/
def optsAllWrong : ChangeSpec := { name := "optsAll", fn := fun _ => fun
  | [d1, d2, d3] => { results := [.lit (.bool false)], args := [d1, d2, d3] }
  | _ => none }
def OptsAllWrongFalsely : Prop := optsAllRow.holds Try.pinned (OpenSpec.ofChange optsAllWrong)

/-- 'withylaw4.OptsBack': WHATEVER THE INPUT: true; the input reads as it did. -/
def optsBackSpec : ChangeSpec := { name := "optsBack", fn := fun _ => fun
  | [d1, d2] => { results := [.lit (.bool true)], args := [d1, d2] }
  | _ => none }
def optsBackRow : OpenClaim := { program := "ytkbknmoheecplaa", sum := "1442235fb994237908dabc9724ee555614f3dc4eeaf185239f8341fde364c81c", func := "withy/withylaw4.OptsBack", spec := "optsBack", inPlace := ["internal/abi.NoEscape"], unfollowed := true, recurses := true, apart := false }
def OptsBackSaid : Prop := optsBackRow.holds Try.pinned (OpenSpec.ofChange optsBackSpec)

/-- ITS FALSE NEIGHBOUR: 'it returns false'. Refute it at one input. -/
def optsBackWrong : ChangeSpec := { name := "optsBack", fn := fun _ => fun
  | [d1, d2] => { results := [.lit (.bool false)], args := [d1, d2] }
  | _ => none }
def OptsBackWrongFalsely : Prop := optsBackRow.holds Try.pinned (OpenSpec.ofChange optsBackWrong)

/-- 'withylaw4.OptsLimits': WHATEVER THE INPUT: true; the input reads as it did. -/
def optsLimitsSpec : ChangeSpec := { name := "optsLimits", fn := fun _ => fun
  | [d1, d2] => { results := [.lit (.bool true)], args := [d1, d2] }
  | _ => none }
def optsLimitsRow : OpenClaim := { program := "ytkbknmoheecplaa", sum := "1442235fb994237908dabc9724ee555614f3dc4eeaf185239f8341fde364c81c", func := "withy/withylaw4.OptsLimits", spec := "optsLimits", inPlace := ["internal/abi.NoEscape"], unfollowed := true, recurses := true, apart := false }
def OptsLimitsSaid : Prop := optsLimitsRow.holds Try.pinned (OpenSpec.ofChange optsLimitsSpec)

/-- ITS FALSE NEIGHBOUR: 'it returns false'. Refute it at one input. -/
def optsLimitsWrong : ChangeSpec := { name := "optsLimits", fn := fun _ => fun
  | [d1, d2] => { results := [.lit (.bool false)], args := [d1, d2] }
  | _ => none }
def OptsLimitsWrongFalsely : Prop := optsLimitsRow.holds Try.pinned (OpenSpec.ofChange optsLimitsWrong)

/-- 'withylaw4.OptsFind': WHATEVER THE INPUT: true; the input reads as it did. -/
def optsFindSpec : ChangeSpec := { name := "optsFind", fn := fun _ => fun
  | [d1, d2] => { results := [.lit (.bool true)], args := [d1, d2] }
  | _ => none }
def optsFindRow : OpenClaim := { program := "ytkbknmoheecplaa", sum := "1442235fb994237908dabc9724ee555614f3dc4eeaf185239f8341fde364c81c", func := "withy/withylaw4.OptsFind", spec := "optsFind", inPlace := ["internal/abi.NoEscape"], unfollowed := true, recurses := true, apart := false }
def OptsFindSaid : Prop := optsFindRow.holds Try.pinned (OpenSpec.ofChange optsFindSpec)

/-- ITS FALSE NEIGHBOUR: 'it returns false'. Refute it at one input. -/
def optsFindWrong : ChangeSpec := { name := "optsFind", fn := fun _ => fun
  | [d1, d2] => { results := [.lit (.bool false)], args := [d1, d2] }
  | _ => none }
def OptsFindWrongFalsely : Prop := optsFindRow.holds Try.pinned (OpenSpec.ofChange optsFindWrong)

/- THE SECOND FORM. 'bulk': how many values and letters a reading holds, each counted each time it is reached (what is shared counts as often as it is met; a slice's spare places count too). A statement '..UptoSaid' is the law's where the arguments, and the package variables that the reading takes, are together of bulk at most 1048576: NARROWER than '..Said'. Prove '..Said' where nothing that the law and all that it calls make is longer than what came in: it says more and counts as full. Else prove '..UptoSaid'. A law counts once. -/
mutual
def uptoBulk {H : Type} : DataW H → Nat
  | .lit (.string bytes) => bytes.length + 1
  | .lit _ => 1
  | .nil => 1
  | .ptr d => uptoBulk d + 1
  | .slice elems spare => uptoBulkAll elems + uptoBulkAll spare + 1
  | .agg parts => uptoBulkAll parts + 1
  | .iface _ d => uptoBulk d + 1
  | .map entries => uptoBulkEntries entries + 1
  | .held _ => 1
def uptoBulkAll {H : Type} : List (DataW H) → Nat
  | [] => 0
  | d :: r => uptoBulk d + uptoBulkAll r
def uptoBulkEntries {H : Type} : List (Lit × DataW H) → Nat
  | [] => 0
  | x :: r => uptoBulkEntry x + uptoBulkEntries r
def uptoBulkEntry {H : Type} : Lit × DataW H → Nat
  | (.string bytes, d) => bytes.length + uptoBulk d + 1
  | (_, d) => uptoBulk d + 1
 end
def uptoSmall : (H : Type) → List (DataW H) → Bool := fun _ ds => decide (uptoBulkAll ds ≤ 1048576)
def OpenSpec.upto (s : _root_.Go.ChangeSpec) : _root_.Go.OpenSpec := { _root_.Go.OpenSpec.ofChange s with cond := some uptoSmall }

/-- 'withylaw4.OptsAll', WHERE WHAT IT READS IS OF BULK AT MOST 1048576: true; the input reads as it did. -/
def optsAllUptoRow : OpenClaim := { program := "ytkbknmoheecplaa", sum := "1442235fb994237908dabc9724ee555614f3dc4eeaf185239f8341fde364c81c", func := "withy/withylaw4.OptsAll", spec := "optsAll", inPlace := ["internal/abi.NoEscape"], unfollowed := true, recurses := true, apart := false, narrowed := true }
def OptsAllUptoSaid : Prop := optsAllUptoRow.holds Try.pinned (OpenSpec.upto optsAllSpec)

/-- 'withylaw4.OptsBack', WHERE WHAT IT READS IS OF BULK AT MOST 1048576: true; the input reads as it did. -/
def optsBackUptoRow : OpenClaim := { program := "ytkbknmoheecplaa", sum := "1442235fb994237908dabc9724ee555614f3dc4eeaf185239f8341fde364c81c", func := "withy/withylaw4.OptsBack", spec := "optsBack", inPlace := ["internal/abi.NoEscape"], unfollowed := true, recurses := true, apart := false, narrowed := true }
def OptsBackUptoSaid : Prop := optsBackUptoRow.holds Try.pinned (OpenSpec.upto optsBackSpec)

/-- 'withylaw4.OptsLimits', WHERE WHAT IT READS IS OF BULK AT MOST 1048576: true; the input reads as it did. -/
def optsLimitsUptoRow : OpenClaim := { program := "ytkbknmoheecplaa", sum := "1442235fb994237908dabc9724ee555614f3dc4eeaf185239f8341fde364c81c", func := "withy/withylaw4.OptsLimits", spec := "optsLimits", inPlace := ["internal/abi.NoEscape"], unfollowed := true, recurses := true, apart := false, narrowed := true }
def OptsLimitsUptoSaid : Prop := optsLimitsUptoRow.holds Try.pinned (OpenSpec.upto optsLimitsSpec)

/-- 'withylaw4.OptsFind', WHERE WHAT IT READS IS OF BULK AT MOST 1048576: true; the input reads as it did. -/
def optsFindUptoRow : OpenClaim := { program := "ytkbknmoheecplaa", sum := "1442235fb994237908dabc9724ee555614f3dc4eeaf185239f8341fde364c81c", func := "withy/withylaw4.OptsFind", spec := "optsFind", inPlace := ["internal/abi.NoEscape"], unfollowed := true, recurses := true, apart := false, narrowed := true }
def OptsFindUptoSaid : Prop := optsFindUptoRow.holds Try.pinned (OpenSpec.upto optsFindSpec)

end Rows
end Go.Proofs.Ytkbknmoheecplaa
