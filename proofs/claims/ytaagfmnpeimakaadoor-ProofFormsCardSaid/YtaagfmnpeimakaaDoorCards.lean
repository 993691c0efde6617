/-
  DERIVED. GIVEN WITH THE SEED: THE CARDS: each row of YtaagfmnpeimakaaDoorRows.lean that lists a variable, with what it lists TIED to the program's text (the seventh form; the later family's looks); each row that meets fmt, with fmt's text TOLD by the authors' own Lean function (tested against real Go, not proved from fmt's source: count such statements apart). THE CARD IS WHAT COUNTS. Prove the row's statement (the work); the ties are given (YtaagfmnpeimakaaDoorTie.lean); close each card by the builder's one call (the guide's Derived/Test/ToyasCard.lean, 'card_holds'). Laid BY PROGRAM, IN A SANDBOX (cutbox-door.mjs). By AI agents, Wed Nov 11 2026. No macro, syntax, notation, axiom, sorry.
-/
import Derived.Test.YtaagfmnpeimakaaDoorRows
import GoSem.ClaimSeven
namespace Go.Proofs.YtaagfmnpeimakaaDoor
namespace Rows

/-- THE TIED CARD OF 'withylaw16.ProofActs'. -/
def proofActsCard : Claim7 := { stood := { row := proofActsRow, standIns := [], harness := (true, "a8790726710e34600d32f7c57691038d46714241f910627f2c320b495dbed12f"), looks := false }, kinds := [], alts := [], laidByText := true, laidKinds := [.data, .data], laidTests := true, laidLooks := .later }
def ProofActsCardSaid : Prop := Claim7.holds Tryd.pinned (.plain (OpenSpec.ofChange proofActsSpec)) proofActsCard

/-- THE TIED CARD OF 'withylaw16.ProofTries'. -/
def proofTriesCard : Claim7 := { stood := { row := proofTriesRow, standIns := [], harness := (true, "a8790726710e34600d32f7c57691038d46714241f910627f2c320b495dbed12f"), looks := false }, kinds := [], alts := [], laidByText := true, laidKinds := [.data, .data], laidTests := true, laidLooks := .later }
def ProofTriesCardSaid : Prop := Claim7.holds Tryd.pinned (.plain (OpenSpec.ofChange proofTriesSpec)) proofTriesCard

/-- THE TIED CARD OF 'withylaw16.ProofAnswers'. -/
def proofAnswersCard : Claim7 := { stood := { row := proofAnswersRow, standIns := [], harness := (true, "a8790726710e34600d32f7c57691038d46714241f910627f2c320b495dbed12f"), looks := false }, kinds := [], alts := [], laidByText := true, laidKinds := [.data, .data], laidTests := true, laidLooks := .later }
def ProofAnswersCardSaid : Prop := Claim7.holds Tryd.pinned (.plain (OpenSpec.ofChange proofAnswersSpec)) proofAnswersCard

/-- THE TIED CARD OF 'withylaw16.ProofWrong'. -/
def proofWrongCard : Claim7 := { stood := { row := proofWrongRow, standIns := [], harness := (true, "a8790726710e34600d32f7c57691038d46714241f910627f2c320b495dbed12f"), looks := false }, kinds := [], alts := [], laidByText := true, laidKinds := [.data, .data], laidTests := true, laidLooks := .later }
def ProofWrongCardSaid : Prop := Claim7.holds Tryd.pinned (.plain (OpenSpec.ofChange proofWrongSpec)) proofWrongCard

/-- THE TIED CARD OF 'withylaw16.ProofForms'. -/
def proofFormsCard : Claim7 := { stood := { row := proofFormsRow, standIns := [], harness := (true, "a8790726710e34600d32f7c57691038d46714241f910627f2c320b495dbed12f"), looks := false }, kinds := [], alts := [], laidByText := true, laidKinds := [.data, .data], laidTests := true, laidLooks := .later }
def ProofFormsCardSaid : Prop := Claim7.holds Tryd.pinned (.plain (OpenSpec.ofChange proofFormsSpec)) proofFormsCard

/-- THE SECOND FORM's CARD OF 'withylaw16.ProofActs'. -/
def proofActsUptoCard : Claim7 := { stood := { row := proofActsUptoRow, standIns := [], harness := (true, "a8790726710e34600d32f7c57691038d46714241f910627f2c320b495dbed12f"), looks := false }, kinds := [], alts := [], laidByText := true, laidKinds := [.data, .data], laidTests := true, laidLooks := .later }
def ProofActsUptoCardSaid : Prop := Claim7.holds Tryd.pinned (.plain (OpenSpec.upto proofActsSpec)) proofActsUptoCard

/-- THE SECOND FORM's CARD OF 'withylaw16.ProofTries'. -/
def proofTriesUptoCard : Claim7 := { stood := { row := proofTriesUptoRow, standIns := [], harness := (true, "a8790726710e34600d32f7c57691038d46714241f910627f2c320b495dbed12f"), looks := false }, kinds := [], alts := [], laidByText := true, laidKinds := [.data, .data], laidTests := true, laidLooks := .later }
def ProofTriesUptoCardSaid : Prop := Claim7.holds Tryd.pinned (.plain (OpenSpec.upto proofTriesSpec)) proofTriesUptoCard

/-- THE SECOND FORM's CARD OF 'withylaw16.ProofAnswers'. -/
def proofAnswersUptoCard : Claim7 := { stood := { row := proofAnswersUptoRow, standIns := [], harness := (true, "a8790726710e34600d32f7c57691038d46714241f910627f2c320b495dbed12f"), looks := false }, kinds := [], alts := [], laidByText := true, laidKinds := [.data, .data], laidTests := true, laidLooks := .later }
def ProofAnswersUptoCardSaid : Prop := Claim7.holds Tryd.pinned (.plain (OpenSpec.upto proofAnswersSpec)) proofAnswersUptoCard

/-- THE SECOND FORM's CARD OF 'withylaw16.ProofWrong'. -/
def proofWrongUptoCard : Claim7 := { stood := { row := proofWrongUptoRow, standIns := [], harness := (true, "a8790726710e34600d32f7c57691038d46714241f910627f2c320b495dbed12f"), looks := false }, kinds := [], alts := [], laidByText := true, laidKinds := [.data, .data], laidTests := true, laidLooks := .later }
def ProofWrongUptoCardSaid : Prop := Claim7.holds Tryd.pinned (.plain (OpenSpec.upto proofWrongSpec)) proofWrongUptoCard

/-- THE SECOND FORM's CARD OF 'withylaw16.ProofForms'. -/
def proofFormsUptoCard : Claim7 := { stood := { row := proofFormsUptoRow, standIns := [], harness := (true, "a8790726710e34600d32f7c57691038d46714241f910627f2c320b495dbed12f"), looks := false }, kinds := [], alts := [], laidByText := true, laidKinds := [.data, .data], laidTests := true, laidLooks := .later }
def ProofFormsUptoCardSaid : Prop := Claim7.holds Tryd.pinned (.plain (OpenSpec.upto proofFormsSpec)) proofFormsUptoCard
end Rows
end Go.Proofs.YtaagfmnpeimakaaDoor
