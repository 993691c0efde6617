/-
  No cell of these rows narrows 'for every input' (looked for: loops, veiled, ifaces, maps, wideKeys, modest, calm, conditions, laid).
  DERIVED. THE GIVEN ROWS OF THIS SEAT. 4 by the template 'for every input the law returns true; each argument reads behind the call as it read before'; 0 by the template 'total and deterministic' (their statements: YtmonoicdejallaaTotals.lean).
  GIVEN WITH THE SEED: the statements are not yours to turn. If you find one false, say at which input.
  Laid BY PROGRAM, IN A SANDBOX (cutbox-rows.mjs): the forced cells as the released guide's own fill.sh prints them over the translation 799baf6d01a8dc5d… (all of the seat's roots in one cut). By AI agents, Wed Nov 11 2026. No macro, syntax, notation, axiom, sorry.
-/
import Derived.Test.YtmonoicdejallaaChecked
import GoSem.Claim
import GoSem.ClaimJoined
import GoSem.ClaimMapViews
import Derived.JoinedTies
import Derived.KernelRfl
namespace Go.Proofs.Ytmonoicdejallaa
/- THE CELL 'sum', in the pinned program and in every row, IS THE sha256 OF THE DUMP (.gsa) THAT YtmonoicdejallaaProg.lean LOADS. Nothing in Lean hashes anything: it is a label: what it is worth is what the hold of that sum in a sandbox is worth. -/
noncomputable def Try.pinned : Pinned := { name := "ytmonoicdejallaa", sum := "799baf6d01a8dc5df057f472d784d581ff041faf6acb8ab9ca546c8150b8b8e1", checked := Try.checked }
namespace Rows
def none {H : Type} : Left H := { results := [], args := [] }

/-- 'withylaw9.Baps': WHATEVER THE INPUT: true; the input reads as it did. -/
def bapsSpec : ChangeSpec := { name := "baps", fn := fun _ => fun
  | [d1, d2] => { results := [.lit (.bool true)], args := [d1, d2] }
  | _ => none }
def bapsRow : OpenClaim := { program := "ytmonoicdejallaa", sum := "799baf6d01a8dc5df057f472d784d581ff041faf6acb8ab9ca546c8150b8b8e1", func := "withy/withylaw9.Baps", spec := "baps", inPlace := ["internal/abi.NoEscape"], unfollowed := true, recurses := true, apart := false }
def BapsSaid : Prop := bapsRow.holds Try.pinned (OpenSpec.ofChange bapsSpec)

/-- ITS FALSE NEIGHBOUR: 'it returns false'. Refute it at one input. -/
def bapsWrong : ChangeSpec := { name := "baps", fn := fun _ => fun
  | [d1, d2] => { results := [.lit (.bool false)], args := [d1, d2] }
  | _ => none }
def BapsWrongFalsely : Prop := bapsRow.holds Try.pinned (OpenSpec.ofChange bapsWrong)

/-- 'withylaw9.BapBack': WHATEVER THE INPUT: true; the input reads as it did. -/
def bapBackSpec : ChangeSpec := { name := "bapBack", fn := fun _ => fun
  | [d1, d2] => { results := [.lit (.bool true)], args := [d1, d2] }
  | _ => none }
def bapBackRow : OpenClaim := { program := "ytmonoicdejallaa", sum := "799baf6d01a8dc5df057f472d784d581ff041faf6acb8ab9ca546c8150b8b8e1", func := "withy/withylaw9.BapBack", spec := "bapBack", inPlace := ["internal/abi.NoEscape"], unfollowed := true, recurses := true, apart := false }
def BapBackSaid : Prop := bapBackRow.holds Try.pinned (OpenSpec.ofChange bapBackSpec)

/-- ITS FALSE NEIGHBOUR: 'it returns false'. Refute it at one input. -/
def bapBackWrong : ChangeSpec := { name := "bapBack", fn := fun _ => fun
  | [d1, d2] => { results := [.lit (.bool false)], args := [d1, d2] }
  | _ => none }
def BapBackWrongFalsely : Prop := bapBackRow.holds Try.pinned (OpenSpec.ofChange bapBackWrong)

/-- 'withylaw9.BapAnswers': WHATEVER THE INPUT: true; the input reads as it did. -/
def bapAnswersSpec : ChangeSpec := { name := "bapAnswers", fn := fun _ => fun
  | [d1, d2, d3] => { results := [.lit (.bool true)], args := [d1, d2, d3] }
  | _ => none }
def bapAnswersRow : OpenClaim := { program := "ytmonoicdejallaa", sum := "799baf6d01a8dc5df057f472d784d581ff041faf6acb8ab9ca546c8150b8b8e1", func := "withy/withylaw9.BapAnswers", spec := "bapAnswers", inPlace := ["internal/abi.NoEscape"], unfollowed := true, recurses := true, apart := false }
def BapAnswersSaid : Prop := bapAnswersRow.holds Try.pinned (OpenSpec.ofChange bapAnswersSpec)

/-- ITS FALSE NEIGHBOUR: 'it returns false'. Refute it at one input. -/
def bapAnswersWrong : ChangeSpec := { name := "bapAnswers", fn := fun _ => fun
  | [d1, d2, d3] => { results := [.lit (.bool false)], args := [d1, d2, d3] }
  | _ => none }
def BapAnswersWrongFalsely : Prop := bapAnswersRow.holds Try.pinned (OpenSpec.ofChange bapAnswersWrong)

/-- 'withylaw9.BapLengths': WHATEVER THE INPUT: true; the input reads as it did. -/
def bapLengthsSpec : ChangeSpec := { name := "bapLengths", fn := fun _ => fun
  | [d1, d2, d3] => { results := [.lit (.bool true)], args := [d1, d2, d3] }
  | _ => none }
def bapLengthsRow : OpenClaim := { program := "ytmonoicdejallaa", sum := "799baf6d01a8dc5df057f472d784d581ff041faf6acb8ab9ca546c8150b8b8e1", func := "withy/withylaw9.BapLengths", spec := "bapLengths", inPlace := ["internal/abi.NoEscape"], unfollowed := true, recurses := true, apart := false }
def BapLengthsSaid : Prop := bapLengthsRow.holds Try.pinned (OpenSpec.ofChange bapLengthsSpec)

/-- ITS FALSE NEIGHBOUR: 'it returns false'. Refute it at one input. -/
def bapLengthsWrong : ChangeSpec := { name := "bapLengths", fn := fun _ => fun
  | [d1, d2, d3] => { results := [.lit (.bool false)], args := [d1, d2, d3] }
  | _ => none }
def BapLengthsWrongFalsely : Prop := bapLengthsRow.holds Try.pinned (OpenSpec.ofChange bapLengthsWrong)

/- THE SECOND FORM. 'bulk': how many values and letters a reading holds, each counted each time it is reached (what is shared counts as often as it is met; a slice's spare places count too). A statement '..UptoSaid' is the law's where the arguments, and the package variables that the reading takes, are together of bulk at most 1048576: NARROWER than '..Said'. Prove '..Said' where nothing that the law and all that it calls make is longer than what came in: it says more and counts as full. Else prove '..UptoSaid'. A law counts once. -/
mutual
def uptoBulk {H : Type} : DataW H → Nat
  | .lit (.string bytes) => bytes.length + 1
  | .lit _ => 1
  | .nil => 1
  | .ptr d => uptoBulk d + 1
  | .slice elems spare => uptoBulkAll elems + uptoBulkAll spare + 1
  | .agg parts => uptoBulkAll parts + 1
  | .iface _ d => uptoBulk d + 1
  | .map entries => uptoBulkEntries entries + 1
  | .held _ => 1
def uptoBulkAll {H : Type} : List (DataW H) → Nat
  | [] => 0
  | d :: r => uptoBulk d + uptoBulkAll r
def uptoBulkEntries {H : Type} : List (Lit × DataW H) → Nat
  | [] => 0
  | x :: r => uptoBulkEntry x + uptoBulkEntries r
def uptoBulkEntry {H : Type} : Lit × DataW H → Nat
  | (.string bytes, d) => bytes.length + uptoBulk d + 1
  | (_, d) => uptoBulk d + 1
 end
def uptoSmall : (H : Type) → List (DataW H) → Bool := fun _ ds => decide (uptoBulkAll ds ≤ 1048576)
def OpenSpec.upto (s : _root_.Go.ChangeSpec) : _root_.Go.OpenSpec := { _root_.Go.OpenSpec.ofChange s with cond := some uptoSmall }

/-- 'withylaw9.Baps', WHERE WHAT IT READS IS OF BULK AT MOST 1048576: true; the input reads as it did. -/
def bapsUptoRow : OpenClaim := { program := "ytmonoicdejallaa", sum := "799baf6d01a8dc5df057f472d784d581ff041faf6acb8ab9ca546c8150b8b8e1", func := "withy/withylaw9.Baps", spec := "baps", inPlace := ["internal/abi.NoEscape"], unfollowed := true, recurses := true, apart := false, narrowed := true }
def BapsUptoSaid : Prop := bapsUptoRow.holds Try.pinned (OpenSpec.upto bapsSpec)

/-- 'withylaw9.BapBack', WHERE WHAT IT READS IS OF BULK AT MOST 1048576: true; the input reads as it did. -/
def bapBackUptoRow : OpenClaim := { program := "ytmonoicdejallaa", sum := "799baf6d01a8dc5df057f472d784d581ff041faf6acb8ab9ca546c8150b8b8e1", func := "withy/withylaw9.BapBack", spec := "bapBack", inPlace := ["internal/abi.NoEscape"], unfollowed := true, recurses := true, apart := false, narrowed := true }
def BapBackUptoSaid : Prop := bapBackUptoRow.holds Try.pinned (OpenSpec.upto bapBackSpec)

/-- 'withylaw9.BapAnswers', WHERE WHAT IT READS IS OF BULK AT MOST 1048576: true; the input reads as it did. -/
def bapAnswersUptoRow : OpenClaim := { program := "ytmonoicdejallaa", sum := "799baf6d01a8dc5df057f472d784d581ff041faf6acb8ab9ca546c8150b8b8e1", func := "withy/withylaw9.BapAnswers", spec := "bapAnswers", inPlace := ["internal/abi.NoEscape"], unfollowed := true, recurses := true, apart := false, narrowed := true }
def BapAnswersUptoSaid : Prop := bapAnswersUptoRow.holds Try.pinned (OpenSpec.upto bapAnswersSpec)

/-- 'withylaw9.BapLengths', WHERE WHAT IT READS IS OF BULK AT MOST 1048576: true; the input reads as it did. -/
def bapLengthsUptoRow : OpenClaim := { program := "ytmonoicdejallaa", sum := "799baf6d01a8dc5df057f472d784d581ff041faf6acb8ab9ca546c8150b8b8e1", func := "withy/withylaw9.BapLengths", spec := "bapLengths", inPlace := ["internal/abi.NoEscape"], unfollowed := true, recurses := true, apart := false, narrowed := true }
def BapLengthsUptoSaid : Prop := bapLengthsUptoRow.holds Try.pinned (OpenSpec.upto bapLengthsSpec)

end Rows
end Go.Proofs.Ytmonoicdejallaa
