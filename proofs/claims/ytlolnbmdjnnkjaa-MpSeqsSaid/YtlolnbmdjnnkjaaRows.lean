/-
  No cell of these rows narrows 'for every input' (looked for: loops, veiled, ifaces, maps, wideKeys, modest, calm, conditions, laid).
  DERIVED. THE GIVEN ROWS OF THIS SEAT. 4 by the template 'for every input the law returns true; each argument reads behind the call as it read before'; 0 by the template 'total and deterministic' (their statements: YtlolnbmdjnnkjaaTotals.lean).
  GIVEN WITH THE SEED: the statements are not yours to turn. If you find one false, say at which input.
  Laid BY PROGRAM, IN A SANDBOX (cutbox-rows.mjs): the forced cells as the released guide's own fill.sh prints them over the translation 6b35f2cd44abce21… (all of the seat's roots in one cut). By AI agents, Wed Nov 11 2026. No macro, syntax, notation, axiom, sorry.
-/
import Derived.Test.YtlolnbmdjnnkjaaChecked
import GoSem.Claim
import GoSem.ClaimJoined
import GoSem.ClaimMapViews
import Derived.JoinedTies
import Derived.KernelRfl
namespace Go.Proofs.Ytlolnbmdjnnkjaa
/- THE CELL 'sum', in the pinned program and in every row, IS THE sha256 OF THE DUMP (.gsa) THAT YtlolnbmdjnnkjaaProg.lean LOADS. Nothing in Lean hashes anything: it is a label: what it is worth is what the hold of that sum in a sandbox is worth. -/
noncomputable def Try.pinned : Pinned := { name := "ytlolnbmdjnnkjaa", sum := "6b35f2cd44abce21c18bec633a23bd8e3cf130882b845bc8eb9fed08dfa27f67", checked := Try.checked }
namespace Rows
def none {H : Type} : Left H := { results := [], args := [] }

/-- 'withylaw8.MpHeads': WHATEVER THE INPUT: true; the input reads as it did. -/
def mpHeadsSpec : ChangeSpec := { name := "mpHeads", fn := fun _ => fun
  | [d1, d2, d3] => { results := [.lit (.bool true)], args := [d1, d2, d3] }
  | _ => none }
def mpHeadsRow : OpenClaim := { program := "ytlolnbmdjnnkjaa", sum := "6b35f2cd44abce21c18bec633a23bd8e3cf130882b845bc8eb9fed08dfa27f67", func := "withy/withylaw8.MpHeads", spec := "mpHeads", apart := false }
def MpHeadsSaid : Prop := mpHeadsRow.holds Try.pinned (OpenSpec.ofChange mpHeadsSpec)

/-- ITS FALSE NEIGHBOUR: 'it returns false'. Refute it at one input. -/
def mpHeadsWrong : ChangeSpec := { name := "mpHeads", fn := fun _ => fun
  | [d1, d2, d3] => { results := [.lit (.bool false)], args := [d1, d2, d3] }
  | _ => none }
def MpHeadsWrongFalsely : Prop := mpHeadsRow.holds Try.pinned (OpenSpec.ofChange mpHeadsWrong)

/-- 'withylaw8.MpBack': WHATEVER THE INPUT: true; the input reads as it did. -/
def mpBackSpec : ChangeSpec := { name := "mpBack", fn := fun _ => fun
  | [d1, d2, d3] => { results := [.lit (.bool true)], args := [d1, d2, d3] }
  | _ => none }
def mpBackRow : OpenClaim := { program := "ytlolnbmdjnnkjaa", sum := "6b35f2cd44abce21c18bec633a23bd8e3cf130882b845bc8eb9fed08dfa27f67", func := "withy/withylaw8.MpBack", spec := "mpBack", apart := false }
def MpBackSaid : Prop := mpBackRow.holds Try.pinned (OpenSpec.ofChange mpBackSpec)

/-- ITS FALSE NEIGHBOUR: 'it returns false'. Refute it at one input. -/
def mpBackWrong : ChangeSpec := { name := "mpBack", fn := fun _ => fun
  | [d1, d2, d3] => { results := [.lit (.bool false)], args := [d1, d2, d3] }
  | _ => none }
def MpBackWrongFalsely : Prop := mpBackRow.holds Try.pinned (OpenSpec.ofChange mpBackWrong)

/-- 'withylaw8.MpSeqs': WHATEVER THE INPUT: true; the input reads as it did. -/
def mpSeqsSpec : ChangeSpec := { name := "mpSeqs", fn := fun _ => fun
  | [d1, d2, d3, d4] => { results := [.lit (.bool true)], args := [d1, d2, d3, d4] }
  | _ => none }
def mpSeqsRow : OpenClaim := { program := "ytlolnbmdjnnkjaa", sum := "6b35f2cd44abce21c18bec633a23bd8e3cf130882b845bc8eb9fed08dfa27f67", func := "withy/withylaw8.MpSeqs", spec := "mpSeqs", apart := false }
def MpSeqsSaid : Prop := mpSeqsRow.holds Try.pinned (OpenSpec.ofChange mpSeqsSpec)

/-- ITS FALSE NEIGHBOUR: 'it returns false'. Refute it at one input. -/
def mpSeqsWrong : ChangeSpec := { name := "mpSeqs", fn := fun _ => fun
  | [d1, d2, d3, d4] => { results := [.lit (.bool false)], args := [d1, d2, d3, d4] }
  | _ => none }
def MpSeqsWrongFalsely : Prop := mpSeqsRow.holds Try.pinned (OpenSpec.ofChange mpSeqsWrong)

/-- 'withylaw8.MpForms': WHATEVER THE INPUT: true; the input reads as it did. -/
def mpFormsSpec : ChangeSpec := { name := "mpForms", fn := fun _ => fun
  | [d1, d2, d3, d4] => { results := [.lit (.bool true)], args := [d1, d2, d3, d4] }
  | _ => none }
def mpFormsRow : OpenClaim := { program := "ytlolnbmdjnnkjaa", sum := "6b35f2cd44abce21c18bec633a23bd8e3cf130882b845bc8eb9fed08dfa27f67", func := "withy/withylaw8.MpForms", spec := "mpForms", apart := false }
def MpFormsSaid : Prop := mpFormsRow.holds Try.pinned (OpenSpec.ofChange mpFormsSpec)

/-- ITS FALSE NEIGHBOUR: 'it returns false'. Refute it at one input. -/
def mpFormsWrong : ChangeSpec := { name := "mpForms", fn := fun _ => fun
  | [d1, d2, d3, d4] => { results := [.lit (.bool false)], args := [d1, d2, d3, d4] }
  | _ => none }
def MpFormsWrongFalsely : Prop := mpFormsRow.holds Try.pinned (OpenSpec.ofChange mpFormsWrong)

/- THE SECOND FORM. 'bulk': how many values and letters a reading holds, each counted each time it is reached (what is shared counts as often as it is met; a slice's spare places count too). A statement '..UptoSaid' is the law's where the arguments, and the package variables that the reading takes, are together of bulk at most 1048576: NARROWER than '..Said'. Prove '..Said' where nothing that the law and all that it calls make is longer than what came in: it says more and counts as full. Else prove '..UptoSaid'. A law counts once. -/
mutual
def uptoBulk {H : Type} : DataW H → Nat
  | .lit (.string bytes) => bytes.length + 1
  | .lit _ => 1
  | .nil => 1
  | .ptr d => uptoBulk d + 1
  | .slice elems spare => uptoBulkAll elems + uptoBulkAll spare + 1
  | .agg parts => uptoBulkAll parts + 1
  | .iface _ d => uptoBulk d + 1
  | .map entries => uptoBulkEntries entries + 1
  | .held _ => 1
def uptoBulkAll {H : Type} : List (DataW H) → Nat
  | [] => 0
  | d :: r => uptoBulk d + uptoBulkAll r
def uptoBulkEntries {H : Type} : List (Lit × DataW H) → Nat
  | [] => 0
  | x :: r => uptoBulkEntry x + uptoBulkEntries r
def uptoBulkEntry {H : Type} : Lit × DataW H → Nat
  | (.string bytes, d) => bytes.length + uptoBulk d + 1
  | (_, d) => uptoBulk d + 1
 end
def uptoSmall : (H : Type) → List (DataW H) → Bool := fun _ ds => decide (uptoBulkAll ds ≤ 1048576)
def OpenSpec.upto (s : _root_.Go.ChangeSpec) : _root_.Go.OpenSpec := { _root_.Go.OpenSpec.ofChange s with cond := some uptoSmall }

/-- 'withylaw8.MpHeads', WHERE WHAT IT READS IS OF BULK AT MOST 1048576: true; the input reads as it did. -/
def mpHeadsUptoRow : OpenClaim := { program := "ytlolnbmdjnnkjaa", sum := "6b35f2cd44abce21c18bec633a23bd8e3cf130882b845bc8eb9fed08dfa27f67", func := "withy/withylaw8.MpHeads", spec := "mpHeads", apart := false, narrowed := true }
def MpHeadsUptoSaid : Prop := mpHeadsUptoRow.holds Try.pinned (OpenSpec.upto mpHeadsSpec)

/-- 'withylaw8.MpBack', WHERE WHAT IT READS IS OF BULK AT MOST 1048576: true; the input reads as it did. -/
def mpBackUptoRow : OpenClaim := { program := "ytlolnbmdjnnkjaa", sum := "6b35f2cd44abce21c18bec633a23bd8e3cf130882b845bc8eb9fed08dfa27f67", func := "withy/withylaw8.MpBack", spec := "mpBack", apart := false, narrowed := true }
def MpBackUptoSaid : Prop := mpBackUptoRow.holds Try.pinned (OpenSpec.upto mpBackSpec)

/-- 'withylaw8.MpSeqs', WHERE WHAT IT READS IS OF BULK AT MOST 1048576: true; the input reads as it did. -/
def mpSeqsUptoRow : OpenClaim := { program := "ytlolnbmdjnnkjaa", sum := "6b35f2cd44abce21c18bec633a23bd8e3cf130882b845bc8eb9fed08dfa27f67", func := "withy/withylaw8.MpSeqs", spec := "mpSeqs", apart := false, narrowed := true }
def MpSeqsUptoSaid : Prop := mpSeqsUptoRow.holds Try.pinned (OpenSpec.upto mpSeqsSpec)

/-- 'withylaw8.MpForms', WHERE WHAT IT READS IS OF BULK AT MOST 1048576: true; the input reads as it did. -/
def mpFormsUptoRow : OpenClaim := { program := "ytlolnbmdjnnkjaa", sum := "6b35f2cd44abce21c18bec633a23bd8e3cf130882b845bc8eb9fed08dfa27f67", func := "withy/withylaw8.MpForms", spec := "mpForms", apart := false, narrowed := true }
def MpFormsUptoSaid : Prop := mpFormsUptoRow.holds Try.pinned (OpenSpec.upto mpFormsSpec)

end Rows
end Go.Proofs.Ytlolnbmdjnnkjaa
