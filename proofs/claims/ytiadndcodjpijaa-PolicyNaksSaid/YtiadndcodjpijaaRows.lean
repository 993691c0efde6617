/-
  No cell of these rows narrows 'for every input' (looked for: loops, veiled, ifaces, maps, wideKeys, modest, calm, conditions, laid).
  DERIVED. THE GIVEN ROWS OF THIS SEAT. 6 by the template 'for every input the law returns true; each argument reads behind the call as it read before'; 0 by the template 'total and deterministic' (their statements: YtiadndcodjpijaaTotals.lean).
  GIVEN WITH THE SEED: the statements are not yours to turn. If you find one false, say at which input.
  Laid BY PROGRAM, IN A SANDBOX (cutbox-rows.mjs): the forced cells as the released guide's own fill.sh prints them over the translation 184613b6422a574d… (all of the seat's roots in one cut). By AI agents, Wed Nov 11 2026. No macro, syntax, notation, axiom, sorry.
-/
import Derived.Test.YtiadndcodjpijaaChecked
import GoSem.Claim
import GoSem.ClaimJoined
import GoSem.ClaimMapViews
import Derived.JoinedTies
import Derived.KernelRfl
namespace Go.Proofs.Ytiadndcodjpijaa
/- THE CELL 'sum', in the pinned program and in every row, IS THE sha256 OF THE DUMP (.gsa) THAT YtiadndcodjpijaaProg.lean LOADS. Nothing in Lean hashes anything: it is a label: what it is worth is what the hold of that sum in a sandbox is worth. -/
noncomputable def Try.pinned : Pinned := { name := "ytiadndcodjpijaa", sum := "184613b6422a574dc42c7b044ee0b3fdf18677458709e2b9087d7cd4eca9b05e", checked := Try.checked }
namespace Rows
def none {H : Type} : Left H := { results := [], args := [] }

/-- 'withylaw14.PolicyBack': WHATEVER THE INPUT: true; the input reads as it did. -/
def policyBackSpec : ChangeSpec := { name := "policyBack", fn := fun _ => fun
  | [d1, d2] => { results := [.lit (.bool true)], args := [d1, d2] }
  | _ => none }
def policyBackRow : OpenClaim := { program := "ytiadndcodjpijaa", sum := "184613b6422a574dc42c7b044ee0b3fdf18677458709e2b9087d7cd4eca9b05e", func := "withy/withylaw14.PolicyBack", spec := "policyBack", unfollowed := true, recurses := true, apart := false }
def PolicyBackSaid : Prop := policyBackRow.holds Try.pinned (OpenSpec.ofChange policyBackSpec)

/-- ITS FALSE NEIGHBOUR: 'it returns false'. Refute it at one input. -/
def policyBackWrong : ChangeSpec := { name := "policyBack", fn := fun _ => fun
  | [d1, d2] => { results := [.lit (.bool false)], args := [d1, d2] }
  | _ => none }
def PolicyBackWrongFalsely : Prop := policyBackRow.holds Try.pinned (OpenSpec.ofChange policyBackWrong)

/-- 'withylaw14.PolicyLearns': WHATEVER THE INPUT: true; the input reads as it did. -/
def policyLearnsSpec : ChangeSpec := { name := "policyLearns", fn := fun _ => fun
  | [d1, d2] => { results := [.lit (.bool true)], args := [d1, d2] }
  | _ => none }
def policyLearnsRow : OpenClaim := { program := "ytiadndcodjpijaa", sum := "184613b6422a574dc42c7b044ee0b3fdf18677458709e2b9087d7cd4eca9b05e", func := "withy/withylaw14.PolicyLearns", spec := "policyLearns", unfollowed := true, recurses := true, apart := false }
def PolicyLearnsSaid : Prop := policyLearnsRow.holds Try.pinned (OpenSpec.ofChange policyLearnsSpec)

/-- ITS FALSE NEIGHBOUR: 'it returns false'. Refute it at one input. -/
def policyLearnsWrong : ChangeSpec := { name := "policyLearns", fn := fun _ => fun
  | [d1, d2] => { results := [.lit (.bool false)], args := [d1, d2] }
  | _ => none }
def PolicyLearnsWrongFalsely : Prop := policyLearnsRow.holds Try.pinned (OpenSpec.ofChange policyLearnsWrong)

/-- 'withylaw14.PolicyKinds': WHATEVER THE INPUT: true; the input reads as it did. -/
def policyKindsSpec : ChangeSpec := { name := "policyKinds", fn := fun _ => fun
  | [d1, d2, d3] => { results := [.lit (.bool true)], args := [d1, d2, d3] }
  | _ => none }
def policyKindsRow : OpenClaim := { program := "ytiadndcodjpijaa", sum := "184613b6422a574dc42c7b044ee0b3fdf18677458709e2b9087d7cd4eca9b05e", func := "withy/withylaw14.PolicyKinds", spec := "policyKinds", unfollowed := true, recurses := true, apart := false }
def PolicyKindsSaid : Prop := policyKindsRow.holds Try.pinned (OpenSpec.ofChange policyKindsSpec)

/-- ITS FALSE NEIGHBOUR: 'it returns false'. Refute it at one input. -/
def policyKindsWrong : ChangeSpec := { name := "policyKinds", fn := fun _ => fun
  | [d1, d2, d3] => { results := [.lit (.bool false)], args := [d1, d2, d3] }
  | _ => none }
def PolicyKindsWrongFalsely : Prop := policyKindsRow.holds Try.pinned (OpenSpec.ofChange policyKindsWrong)

/-- 'withylaw14.PolicyRejects': WHATEVER THE INPUT: true; the input reads as it did. -/
def policyRejectsSpec : ChangeSpec := { name := "policyRejects", fn := fun _ => fun
  | [d1, d2, d3] => { results := [.lit (.bool true)], args := [d1, d2, d3] }
  | _ => none }
def policyRejectsRow : OpenClaim := { program := "ytiadndcodjpijaa", sum := "184613b6422a574dc42c7b044ee0b3fdf18677458709e2b9087d7cd4eca9b05e", func := "withy/withylaw14.PolicyRejects", spec := "policyRejects", unfollowed := true, recurses := true, apart := false }
def PolicyRejectsSaid : Prop := policyRejectsRow.holds Try.pinned (OpenSpec.ofChange policyRejectsSpec)

/-- ITS FALSE NEIGHBOUR: 'it returns false'. Refute it at one input. -/
def policyRejectsWrong : ChangeSpec := { name := "policyRejects", fn := fun _ => fun
  | [d1, d2, d3] => { results := [.lit (.bool false)], args := [d1, d2, d3] }
  | _ => none }
def PolicyRejectsWrongFalsely : Prop := policyRejectsRow.holds Try.pinned (OpenSpec.ofChange policyRejectsWrong)

/-- 'withylaw14.PolicyNaks': WHATEVER THE INPUT: true; the input reads as it did. -/
def policyNaksSpec : ChangeSpec := { name := "policyNaks", fn := fun _ => fun
  | [d1, d2, d3] => { results := [.lit (.bool true)], args := [d1, d2, d3] }
  | _ => none }
def policyNaksRow : OpenClaim := { program := "ytiadndcodjpijaa", sum := "184613b6422a574dc42c7b044ee0b3fdf18677458709e2b9087d7cd4eca9b05e", func := "withy/withylaw14.PolicyNaks", spec := "policyNaks", unfollowed := true, recurses := true, apart := false }
def PolicyNaksSaid : Prop := policyNaksRow.holds Try.pinned (OpenSpec.ofChange policyNaksSpec)

/-- ITS FALSE NEIGHBOUR: 'it returns false'. Refute it at one input. -/
def policyNaksWrong : ChangeSpec := { name := "policyNaks", fn := fun _ => fun
  | [d1, d2, d3] => { results := [.lit (.bool false)], args := [d1, d2, d3] }
  | _ => none }
def PolicyNaksWrongFalsely : Prop := policyNaksRow.holds Try.pinned (OpenSpec.ofChange policyNaksWrong)

/-- 'withylaw14.PolicyOnce': WHATEVER THE INPUT: true; the input reads as it did. -/
def policyOnceSpec : ChangeSpec := { name := "policyOnce", fn := fun _ => fun
  | [d1, d2, d3] => { results := [.lit (.bool true)], args := [d1, d2, d3] }
  | _ => none }
def policyOnceRow : OpenClaim := { program := "ytiadndcodjpijaa", sum := "184613b6422a574dc42c7b044ee0b3fdf18677458709e2b9087d7cd4eca9b05e", func := "withy/withylaw14.PolicyOnce", spec := "policyOnce", unfollowed := true, recurses := true, apart := false }
def PolicyOnceSaid : Prop := policyOnceRow.holds Try.pinned (OpenSpec.ofChange policyOnceSpec)

/-- ITS FALSE NEIGHBOUR: 'it returns false'. Refute it at one input. -/
def policyOnceWrong : ChangeSpec := { name := "policyOnce", fn := fun _ => fun
  | [d1, d2, d3] => { results := [.lit (.bool false)], args := [d1, d2, d3] }
  | _ => none }
def PolicyOnceWrongFalsely : Prop := policyOnceRow.holds Try.pinned (OpenSpec.ofChange policyOnceWrong)

/- THE SECOND FORM. 'bulk': how many values and letters a reading holds, each counted each time it is reached (what is shared counts as often as it is met; a slice's spare places count too). A statement '..UptoSaid' is the law's where the arguments, and the package variables that the reading takes, are together of bulk at most 1048576: NARROWER than '..Said'. Prove '..Said' where nothing that the law and all that it calls make is longer than what came in: it says more and counts as full. Else prove '..UptoSaid'. A law counts once. -/
mutual
def uptoBulk {H : Type} : DataW H → Nat
  | .lit (.string bytes) => bytes.length + 1
  | .lit _ => 1
  | .nil => 1
  | .ptr d => uptoBulk d + 1
  | .slice elems spare => uptoBulkAll elems + uptoBulkAll spare + 1
  | .agg parts => uptoBulkAll parts + 1
  | .iface _ d => uptoBulk d + 1
  | .map entries => uptoBulkEntries entries + 1
  | .held _ => 1
def uptoBulkAll {H : Type} : List (DataW H) → Nat
  | [] => 0
  | d :: r => uptoBulk d + uptoBulkAll r
def uptoBulkEntries {H : Type} : List (Lit × DataW H) → Nat
  | [] => 0
  | x :: r => uptoBulkEntry x + uptoBulkEntries r
def uptoBulkEntry {H : Type} : Lit × DataW H → Nat
  | (.string bytes, d) => bytes.length + uptoBulk d + 1
  | (_, d) => uptoBulk d + 1
 end
def uptoSmall : (H : Type) → List (DataW H) → Bool := fun _ ds => decide (uptoBulkAll ds ≤ 1048576)
def OpenSpec.upto (s : _root_.Go.ChangeSpec) : _root_.Go.OpenSpec := { _root_.Go.OpenSpec.ofChange s with cond := some uptoSmall }

/-- 'withylaw14.PolicyBack', WHERE WHAT IT READS IS OF BULK AT MOST 1048576: true; the input reads as it did. -/
def policyBackUptoRow : OpenClaim := { program := "ytiadndcodjpijaa", sum := "184613b6422a574dc42c7b044ee0b3fdf18677458709e2b9087d7cd4eca9b05e", func := "withy/withylaw14.PolicyBack", spec := "policyBack", unfollowed := true, recurses := true, apart := false, narrowed := true }
def PolicyBackUptoSaid : Prop := policyBackUptoRow.holds Try.pinned (OpenSpec.upto policyBackSpec)

/-- 'withylaw14.PolicyLearns', WHERE WHAT IT READS IS OF BULK AT MOST 1048576: true; the input reads as it did. -/
def policyLearnsUptoRow : OpenClaim := { program := "ytiadndcodjpijaa", sum := "184613b6422a574dc42c7b044ee0b3fdf18677458709e2b9087d7cd4eca9b05e", func := "withy/withylaw14.PolicyLearns", spec := "policyLearns", unfollowed := true, recurses := true, apart := false, narrowed := true }
def PolicyLearnsUptoSaid : Prop := policyLearnsUptoRow.holds Try.pinned (OpenSpec.upto policyLearnsSpec)

/-- 'withylaw14.PolicyKinds', WHERE WHAT IT READS IS OF BULK AT MOST 1048576: true; the input reads as it did. -/
def policyKindsUptoRow : OpenClaim := { program := "ytiadndcodjpijaa", sum := "184613b6422a574dc42c7b044ee0b3fdf18677458709e2b9087d7cd4eca9b05e", func := "withy/withylaw14.PolicyKinds", spec := "policyKinds", unfollowed := true, recurses := true, apart := false, narrowed := true }
def PolicyKindsUptoSaid : Prop := policyKindsUptoRow.holds Try.pinned (OpenSpec.upto policyKindsSpec)

/-- 'withylaw14.PolicyRejects', WHERE WHAT IT READS IS OF BULK AT MOST 1048576: true; the input reads as it did. -/
def policyRejectsUptoRow : OpenClaim := { program := "ytiadndcodjpijaa", sum := "184613b6422a574dc42c7b044ee0b3fdf18677458709e2b9087d7cd4eca9b05e", func := "withy/withylaw14.PolicyRejects", spec := "policyRejects", unfollowed := true, recurses := true, apart := false, narrowed := true }
def PolicyRejectsUptoSaid : Prop := policyRejectsUptoRow.holds Try.pinned (OpenSpec.upto policyRejectsSpec)

/-- 'withylaw14.PolicyNaks', WHERE WHAT IT READS IS OF BULK AT MOST 1048576: true; the input reads as it did. -/
def policyNaksUptoRow : OpenClaim := { program := "ytiadndcodjpijaa", sum := "184613b6422a574dc42c7b044ee0b3fdf18677458709e2b9087d7cd4eca9b05e", func := "withy/withylaw14.PolicyNaks", spec := "policyNaks", unfollowed := true, recurses := true, apart := false, narrowed := true }
def PolicyNaksUptoSaid : Prop := policyNaksUptoRow.holds Try.pinned (OpenSpec.upto policyNaksSpec)

/-- 'withylaw14.PolicyOnce', WHERE WHAT IT READS IS OF BULK AT MOST 1048576: true; the input reads as it did. -/
def policyOnceUptoRow : OpenClaim := { program := "ytiadndcodjpijaa", sum := "184613b6422a574dc42c7b044ee0b3fdf18677458709e2b9087d7cd4eca9b05e", func := "withy/withylaw14.PolicyOnce", spec := "policyOnce", unfollowed := true, recurses := true, apart := false, narrowed := true }
def PolicyOnceUptoSaid : Prop := policyOnceUptoRow.holds Try.pinned (OpenSpec.upto policyOnceSpec)

end Rows
end Go.Proofs.Ytiadndcodjpijaa
