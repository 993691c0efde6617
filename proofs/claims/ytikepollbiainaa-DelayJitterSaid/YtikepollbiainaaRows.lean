/-
  No cell of these rows narrows 'for every input' (looked for: loops, veiled, ifaces, maps, wideKeys, modest, calm, conditions, laid).
  DERIVED. THE GIVEN ROWS OF THIS SEAT. 5 by the template 'for every input the law returns true; each argument reads behind the call as it read before'; 0 by the template 'total and deterministic' (their statements: YtikepollbiainaaTotals.lean).
  GIVEN WITH THE SEED: the statements are not yours to turn. If you find one false, say at which input.
  Laid BY PROGRAM, IN A SANDBOX (cutbox-rows.mjs): the forced cells as the released guide's own fill.sh prints them over the translation cc0dc07399923938… (all of the seat's roots in one cut). By AI agents, Wed Nov 11 2026. No macro, syntax, notation, axiom, sorry.
-/
import Derived.Test.YtikepollbiainaaChecked
import GoSem.Claim
import GoSem.ClaimJoined
import GoSem.ClaimMapViews
import Derived.JoinedTies
import Derived.KernelRfl
namespace Go.Proofs.Ytikepollbiainaa
/- THE CELL 'sum', in the pinned program and in every row, IS THE sha256 OF THE DUMP (.gsa) THAT YtikepollbiainaaProg.lean LOADS. Nothing in Lean hashes anything: it is a label: what it is worth is what the hold of that sum in a sandbox is worth. -/
noncomputable def Try.pinned : Pinned := { name := "ytikepollbiainaa", sum := "cc0dc07399923938b3efafac37051ed6bfbd70e3b183239aa1c9f3d3a26f5b3a", checked := Try.checked }
namespace Rows
def none {H : Type} : Left H := { results := [], args := [] }

/-- 'withylaw12.Delays': WHATEVER THE INPUT: true; the input reads as it did. -/
def delaysSpec : ChangeSpec := { name := "delays", fn := fun _ => fun
  | [d1, d2, d3, d4] => { results := [.lit (.bool true)], args := [d1, d2, d3, d4] }
  | _ => none }
def delaysRow : OpenClaim := { program := "ytikepollbiainaa", sum := "cc0dc07399923938b3efafac37051ed6bfbd70e3b183239aa1c9f3d3a26f5b3a", func := "withy/withylaw12.Delays", spec := "delays", apart := false }
def DelaysSaid : Prop := delaysRow.holds Try.pinned (OpenSpec.ofChange delaysSpec)

/-- ITS FALSE NEIGHBOUR: 'it returns false'. Refute it at one input. -/
def delaysWrong : ChangeSpec := { name := "delays", fn := fun _ => fun
  | [d1, d2, d3, d4] => { results := [.lit (.bool false)], args := [d1, d2, d3, d4] }
  | _ => none }
def DelaysWrongFalsely : Prop := delaysRow.holds Try.pinned (OpenSpec.ofChange delaysWrong)

/-- 'withylaw12.DelayBounds': WHATEVER THE INPUT: true; the input reads as it did. -/
def delayBoundsSpec : ChangeSpec := { name := "delayBounds", fn := fun _ => fun
  | [d1, d2, d3, d4] => { results := [.lit (.bool true)], args := [d1, d2, d3, d4] }
  | _ => none }
def delayBoundsRow : OpenClaim := { program := "ytikepollbiainaa", sum := "cc0dc07399923938b3efafac37051ed6bfbd70e3b183239aa1c9f3d3a26f5b3a", func := "withy/withylaw12.DelayBounds", spec := "delayBounds", apart := false }
def DelayBoundsSaid : Prop := delayBoundsRow.holds Try.pinned (OpenSpec.ofChange delayBoundsSpec)

/-- ITS FALSE NEIGHBOUR: 'it returns false'. Refute it at one input. -/
def delayBoundsWrong : ChangeSpec := { name := "delayBounds", fn := fun _ => fun
  | [d1, d2, d3, d4] => { results := [.lit (.bool false)], args := [d1, d2, d3, d4] }
  | _ => none }
def DelayBoundsWrongFalsely : Prop := delayBoundsRow.holds Try.pinned (OpenSpec.ofChange delayBoundsWrong)

/-- 'withylaw12.DelayForms': WHATEVER THE INPUT: true; the input reads as it did. -/
def delayFormsSpec : ChangeSpec := { name := "delayForms", fn := fun _ => fun
  | [d1, d2, d3, d4] => { results := [.lit (.bool true)], args := [d1, d2, d3, d4] }
  | _ => none }
def delayFormsRow : OpenClaim := { program := "ytikepollbiainaa", sum := "cc0dc07399923938b3efafac37051ed6bfbd70e3b183239aa1c9f3d3a26f5b3a", func := "withy/withylaw12.DelayForms", spec := "delayForms", apart := false }
def DelayFormsSaid : Prop := delayFormsRow.holds Try.pinned (OpenSpec.ofChange delayFormsSpec)

/-- ITS FALSE NEIGHBOUR: 'it returns false'. Refute it at one input. -/
def delayFormsWrong : ChangeSpec := { name := "delayForms", fn := fun _ => fun
  | [d1, d2, d3, d4] => { results := [.lit (.bool false)], args := [d1, d2, d3, d4] }
  | _ => none }
def DelayFormsWrongFalsely : Prop := delayFormsRow.holds Try.pinned (OpenSpec.ofChange delayFormsWrong)

/-- 'withylaw12.DelayJitter': WHATEVER THE INPUT: true; the input reads as it did. -/
def delayJitterSpec : ChangeSpec := { name := "delayJitter", fn := fun _ => fun
  | [d1, d2, d3] => { results := [.lit (.bool true)], args := [d1, d2, d3] }
  | _ => none }
def delayJitterRow : OpenClaim := { program := "ytikepollbiainaa", sum := "cc0dc07399923938b3efafac37051ed6bfbd70e3b183239aa1c9f3d3a26f5b3a", func := "withy/withylaw12.DelayJitter", spec := "delayJitter", apart := false }
def DelayJitterSaid : Prop := delayJitterRow.holds Try.pinned (OpenSpec.ofChange delayJitterSpec)

/-- ITS FALSE NEIGHBOUR: 'it returns false'. Refute it at one input. -/
def delayJitterWrong : ChangeSpec := { name := "delayJitter", fn := fun _ => fun
  | [d1, d2, d3] => { results := [.lit (.bool false)], args := [d1, d2, d3] }
  | _ => none }
def DelayJitterWrongFalsely : Prop := delayJitterRow.holds Try.pinned (OpenSpec.ofChange delayJitterWrong)

/-- 'withylaw12.DelayCaps': WHATEVER THE INPUT: true; the input reads as it did. -/
def delayCapsSpec : ChangeSpec := { name := "delayCaps", fn := fun _ => fun
  | [d1, d2, d3, d4] => { results := [.lit (.bool true)], args := [d1, d2, d3, d4] }
  | _ => none }
def delayCapsRow : OpenClaim := { program := "ytikepollbiainaa", sum := "cc0dc07399923938b3efafac37051ed6bfbd70e3b183239aa1c9f3d3a26f5b3a", func := "withy/withylaw12.DelayCaps", spec := "delayCaps", apart := false }
def DelayCapsSaid : Prop := delayCapsRow.holds Try.pinned (OpenSpec.ofChange delayCapsSpec)

/-- ITS FALSE NEIGHBOUR: 'it returns false'. Refute it at one input. -/
def delayCapsWrong : ChangeSpec := { name := "delayCaps", fn := fun _ => fun
  | [d1, d2, d3, d4] => { results := [.lit (.bool false)], args := [d1, d2, d3, d4] }
  | _ => none }
def DelayCapsWrongFalsely : Prop := delayCapsRow.holds Try.pinned (OpenSpec.ofChange delayCapsWrong)

/- THE SECOND FORM. 'bulk': how many values and letters a reading holds, each counted each time it is reached (what is shared counts as often as it is met; a slice's spare places count too). A statement '..UptoSaid' is the law's where the arguments, and the package variables that the reading takes, are together of bulk at most 1048576: NARROWER than '..Said'. Prove '..Said' where nothing that the law and all that it calls make is longer than what came in: it says more and counts as full. Else prove '..UptoSaid'. A law counts once. -/
mutual
def uptoBulk {H : Type} : DataW H → Nat
  | .lit (.string bytes) => bytes.length + 1
  | .lit _ => 1
  | .nil => 1
  | .ptr d => uptoBulk d + 1
  | .slice elems spare => uptoBulkAll elems + uptoBulkAll spare + 1
  | .agg parts => uptoBulkAll parts + 1
  | .iface _ d => uptoBulk d + 1
  | .map entries => uptoBulkEntries entries + 1
  | .held _ => 1
def uptoBulkAll {H : Type} : List (DataW H) → Nat
  | [] => 0
  | d :: r => uptoBulk d + uptoBulkAll r
def uptoBulkEntries {H : Type} : List (Lit × DataW H) → Nat
  | [] => 0
  | x :: r => uptoBulkEntry x + uptoBulkEntries r
def uptoBulkEntry {H : Type} : Lit × DataW H → Nat
  | (.string bytes, d) => bytes.length + uptoBulk d + 1
  | (_, d) => uptoBulk d + 1
 end
def uptoSmall : (H : Type) → List (DataW H) → Bool := fun _ ds => decide (uptoBulkAll ds ≤ 1048576)
def OpenSpec.upto (s : _root_.Go.ChangeSpec) : _root_.Go.OpenSpec := { _root_.Go.OpenSpec.ofChange s with cond := some uptoSmall }

/-- 'withylaw12.Delays', WHERE WHAT IT READS IS OF BULK AT MOST 1048576: true; the input reads as it did. -/
def delaysUptoRow : OpenClaim := { program := "ytikepollbiainaa", sum := "cc0dc07399923938b3efafac37051ed6bfbd70e3b183239aa1c9f3d3a26f5b3a", func := "withy/withylaw12.Delays", spec := "delays", apart := false, narrowed := true }
def DelaysUptoSaid : Prop := delaysUptoRow.holds Try.pinned (OpenSpec.upto delaysSpec)

/-- 'withylaw12.DelayBounds', WHERE WHAT IT READS IS OF BULK AT MOST 1048576: true; the input reads as it did. -/
def delayBoundsUptoRow : OpenClaim := { program := "ytikepollbiainaa", sum := "cc0dc07399923938b3efafac37051ed6bfbd70e3b183239aa1c9f3d3a26f5b3a", func := "withy/withylaw12.DelayBounds", spec := "delayBounds", apart := false, narrowed := true }
def DelayBoundsUptoSaid : Prop := delayBoundsUptoRow.holds Try.pinned (OpenSpec.upto delayBoundsSpec)

/-- 'withylaw12.DelayForms', WHERE WHAT IT READS IS OF BULK AT MOST 1048576: true; the input reads as it did. -/
def delayFormsUptoRow : OpenClaim := { program := "ytikepollbiainaa", sum := "cc0dc07399923938b3efafac37051ed6bfbd70e3b183239aa1c9f3d3a26f5b3a", func := "withy/withylaw12.DelayForms", spec := "delayForms", apart := false, narrowed := true }
def DelayFormsUptoSaid : Prop := delayFormsUptoRow.holds Try.pinned (OpenSpec.upto delayFormsSpec)

/-- 'withylaw12.DelayJitter', WHERE WHAT IT READS IS OF BULK AT MOST 1048576: true; the input reads as it did. -/
def delayJitterUptoRow : OpenClaim := { program := "ytikepollbiainaa", sum := "cc0dc07399923938b3efafac37051ed6bfbd70e3b183239aa1c9f3d3a26f5b3a", func := "withy/withylaw12.DelayJitter", spec := "delayJitter", apart := false, narrowed := true }
def DelayJitterUptoSaid : Prop := delayJitterUptoRow.holds Try.pinned (OpenSpec.upto delayJitterSpec)

/-- 'withylaw12.DelayCaps', WHERE WHAT IT READS IS OF BULK AT MOST 1048576: true; the input reads as it did. -/
def delayCapsUptoRow : OpenClaim := { program := "ytikepollbiainaa", sum := "cc0dc07399923938b3efafac37051ed6bfbd70e3b183239aa1c9f3d3a26f5b3a", func := "withy/withylaw12.DelayCaps", spec := "delayCaps", apart := false, narrowed := true }
def DelayCapsUptoSaid : Prop := delayCapsUptoRow.holds Try.pinned (OpenSpec.upto delayCapsSpec)

end Rows
end Go.Proofs.Ytikepollbiainaa
