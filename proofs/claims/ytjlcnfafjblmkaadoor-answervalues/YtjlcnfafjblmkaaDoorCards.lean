/-
  DERIVED. GIVEN WITH THE SEED: THE CARDS: each row of YtjlcnfafjblmkaaDoorRows.lean that lists a variable, with what it lists TIED to the program's text (the seventh form; the later family's looks); each row that meets fmt, with fmt's text TOLD by the authors' own Lean function (tested against real Go, not proved from fmt's source: count such statements apart). THE CARD IS WHAT COUNTS. Prove the row's statement (the work); the ties are given (YtjlcnfafjblmkaaDoorTie.lean); close each card by the builder's one call (the guide's Derived/Test/ToyasCard.lean, 'card_holds'). Laid BY PROGRAM, IN A SANDBOX (cutbox-door.mjs). By AI agents, Wed Nov 11 2026. No macro, syntax, notation, axiom, sorry.
-/
import Derived.Test.YtjlcnfafjblmkaaDoorRows
import GoSem.ClaimSeven
namespace Go.Proofs.YtjlcnfafjblmkaaDoor
namespace Rows

/-- THE TIED CARD OF 'depotlaw14.AnswerRuns'. -/
def answerRunsCard : Claim7 := { stood := { row := answerRunsRow, standIns := [], harness := (true, "276de4848b140c109e6fb88af41c36fe312e87038fdbe3216dc04968ada83ec3"), looks := false }, kinds := [], alts := [], laidByText := true, laidKinds := [.data, .data, .data], laidTests := true, laidLooks := .later }
def AnswerRunsCardSaid : Prop := Claim7.holds Tryd.pinned (.plain (OpenSpec.ofChange answerRunsSpec)) answerRunsCard

/-- THE TIED CARD OF 'depotlaw14.AnswerTells'. -/
def answerTellsCard : Claim7 := { stood := { row := answerTellsRow, standIns := [], harness := (true, "276de4848b140c109e6fb88af41c36fe312e87038fdbe3216dc04968ada83ec3"), looks := false }, kinds := [], alts := [], laidByText := true, laidKinds := [.data, .data, .data], laidTests := true, laidLooks := .later }
def AnswerTellsCardSaid : Prop := Claim7.holds Tryd.pinned (.plain (OpenSpec.ofChange answerTellsSpec)) answerTellsCard

/-- THE TIED CARD OF 'depotlaw14.AnswerValues'. -/
def answerValuesCard : Claim7 := { stood := { row := answerValuesRow, standIns := [], harness := (true, "276de4848b140c109e6fb88af41c36fe312e87038fdbe3216dc04968ada83ec3"), looks := false }, kinds := [], alts := [], laidByText := true, laidKinds := [.data, .data, .data], laidTests := true, laidLooks := .later }
def AnswerValuesCardSaid : Prop := Claim7.holds Tryd.pinned (.plain (OpenSpec.ofChange answerValuesSpec)) answerValuesCard

/-- THE TIED CARD OF 'depotlaw14.AnswerLines'. -/
def answerLinesCard : Claim7 := { stood := { row := answerLinesRow, standIns := [], harness := (true, "276de4848b140c109e6fb88af41c36fe312e87038fdbe3216dc04968ada83ec3"), looks := false }, kinds := [], alts := [], laidByText := true, laidKinds := [.data, .data, .data], laidTests := true, laidLooks := .later }
def AnswerLinesCardSaid : Prop := Claim7.holds Tryd.pinned (.plain (OpenSpec.ofChange answerLinesSpec)) answerLinesCard

/-- THE SECOND FORM's CARD OF 'depotlaw14.AnswerRuns'. -/
def answerRunsUptoCard : Claim7 := { stood := { row := answerRunsUptoRow, standIns := [], harness := (true, "276de4848b140c109e6fb88af41c36fe312e87038fdbe3216dc04968ada83ec3"), looks := false }, kinds := [], alts := [], laidByText := true, laidKinds := [.data, .data, .data], laidTests := true, laidLooks := .later }
def AnswerRunsUptoCardSaid : Prop := Claim7.holds Tryd.pinned (.plain (OpenSpec.upto answerRunsSpec)) answerRunsUptoCard

/-- THE SECOND FORM's CARD OF 'depotlaw14.AnswerTells'. -/
def answerTellsUptoCard : Claim7 := { stood := { row := answerTellsUptoRow, standIns := [], harness := (true, "276de4848b140c109e6fb88af41c36fe312e87038fdbe3216dc04968ada83ec3"), looks := false }, kinds := [], alts := [], laidByText := true, laidKinds := [.data, .data, .data], laidTests := true, laidLooks := .later }
def AnswerTellsUptoCardSaid : Prop := Claim7.holds Tryd.pinned (.plain (OpenSpec.upto answerTellsSpec)) answerTellsUptoCard

/-- THE SECOND FORM's CARD OF 'depotlaw14.AnswerValues'. -/
def answerValuesUptoCard : Claim7 := { stood := { row := answerValuesUptoRow, standIns := [], harness := (true, "276de4848b140c109e6fb88af41c36fe312e87038fdbe3216dc04968ada83ec3"), looks := false }, kinds := [], alts := [], laidByText := true, laidKinds := [.data, .data, .data], laidTests := true, laidLooks := .later }
def AnswerValuesUptoCardSaid : Prop := Claim7.holds Tryd.pinned (.plain (OpenSpec.upto answerValuesSpec)) answerValuesUptoCard

/-- THE SECOND FORM's CARD OF 'depotlaw14.AnswerLines'. -/
def answerLinesUptoCard : Claim7 := { stood := { row := answerLinesUptoRow, standIns := [], harness := (true, "276de4848b140c109e6fb88af41c36fe312e87038fdbe3216dc04968ada83ec3"), looks := false }, kinds := [], alts := [], laidByText := true, laidKinds := [.data, .data, .data], laidTests := true, laidLooks := .later }
def AnswerLinesUptoCardSaid : Prop := Claim7.holds Tryd.pinned (.plain (OpenSpec.upto answerLinesSpec)) answerLinesUptoCard
end Rows
end Go.Proofs.YtjlcnfafjblmkaaDoor
