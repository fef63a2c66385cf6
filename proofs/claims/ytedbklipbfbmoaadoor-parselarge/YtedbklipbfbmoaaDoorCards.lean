/-
  DERIVED. GIVEN WITH THE SEED: THE CARDS: each row of YtedbklipbfbmoaaDoorRows.lean that lists a variable, with what it lists TIED to the program's text (the seventh form; the later family's looks); each row that meets fmt, with fmt's text TOLD by the authors' own Lean function (tested against real Go, not proved from fmt's source: count such statements apart). THE CARD IS WHAT COUNTS. Prove the row's statement (the work); the ties are given (YtedbklipbfbmoaaDoorTie.lean); close each card by the builder's one call (the guide's Derived/Test/ToyasCard.lean, 'card_holds'). Laid BY PROGRAM, IN A SANDBOX (cutbox-door.mjs). By AI agents, Wed Nov 11 2026. No macro, syntax, notation, axiom, sorry.
-/
import Derived.Test.YtedbklipbfbmoaaDoorRows
import GoSem.ClaimSeven
namespace Go.Proofs.YtedbklipbfbmoaaDoor
namespace Rows

/-- THE TIED CARD OF 'depotlaw13.ParseRuns'. -/
def parseRunsCard : Claim7 := { stood := { row := parseRunsRow, standIns := [], harness := (true, "b0e194a9536f6229d26c00ef33586a4b7b41542c9d1aebf6aa9dbd55d8c0877b"), looks := false }, kinds := [], alts := [], laidByText := true, laidKinds := [.data], laidTests := true, laidLooks := .later }
def ParseRunsCardSaid : Prop := Claim7.holds Tryd.pinned (.plain (OpenSpec.ofChange parseRunsSpec)) parseRunsCard

/-- THE TIED CARD OF 'depotlaw13.ParseTells'. -/
def parseTellsCard : Claim7 := { stood := { row := parseTellsRow, standIns := [], harness := (true, "b0e194a9536f6229d26c00ef33586a4b7b41542c9d1aebf6aa9dbd55d8c0877b"), looks := false }, kinds := [], alts := [], laidByText := true, laidKinds := [.data], laidTests := true, laidLooks := .later }
def ParseTellsCardSaid : Prop := Claim7.holds Tryd.pinned (.plain (OpenSpec.ofChange parseTellsSpec)) parseTellsCard

/-- THE TIED CARD OF 'depotlaw13.ParseCuts'. -/
def parseCutsCard : Claim7 := { stood := { row := parseCutsRow, standIns := [], harness := (true, "b0e194a9536f6229d26c00ef33586a4b7b41542c9d1aebf6aa9dbd55d8c0877b"), looks := false }, kinds := [], alts := [], laidByText := true, laidKinds := [.data], laidTests := true, laidLooks := .later }
def ParseCutsCardSaid : Prop := Claim7.holds Tryd.pinned (.plain (OpenSpec.ofChange parseCutsSpec)) parseCutsCard

/-- THE TIED CARD OF 'depotlaw13.ParseStores'. -/
def parseStoresCard : Claim7 := { stood := { row := parseStoresRow, standIns := [], harness := (true, "b0e194a9536f6229d26c00ef33586a4b7b41542c9d1aebf6aa9dbd55d8c0877b"), looks := false }, kinds := [], alts := [], laidByText := true, laidKinds := [.data, .data, .data, .data], laidTests := true, laidLooks := .later }
def ParseStoresCardSaid : Prop := Claim7.holds Tryd.pinned (.plain (OpenSpec.ofChange parseStoresSpec)) parseStoresCard

/-- THE TIED CARD OF 'depotlaw13.ParseLarge'. -/
def parseLargeCard : Claim7 := { stood := { row := parseLargeRow, standIns := [], harness := (true, "b0e194a9536f6229d26c00ef33586a4b7b41542c9d1aebf6aa9dbd55d8c0877b"), looks := false }, kinds := [], alts := [], laidByText := true, laidKinds := [.data, .data, .data, .data], laidTests := true, laidLooks := .later }
def ParseLargeCardSaid : Prop := Claim7.holds Tryd.pinned (.plain (OpenSpec.ofChange parseLargeSpec)) parseLargeCard

/-- THE TIED CARD OF 'depotlaw13.ParseLines'. -/
def parseLinesCard : Claim7 := { stood := { row := parseLinesRow, standIns := [], harness := (true, "b0e194a9536f6229d26c00ef33586a4b7b41542c9d1aebf6aa9dbd55d8c0877b"), looks := false }, kinds := [], alts := [], laidByText := true, laidKinds := [.data], laidTests := true, laidLooks := .later }
def ParseLinesCardSaid : Prop := Claim7.holds Tryd.pinned (.plain (OpenSpec.ofChange parseLinesSpec)) parseLinesCard

/-- THE SECOND FORM's CARD OF 'depotlaw13.ParseRuns'. -/
def parseRunsUptoCard : Claim7 := { stood := { row := parseRunsUptoRow, standIns := [], harness := (true, "b0e194a9536f6229d26c00ef33586a4b7b41542c9d1aebf6aa9dbd55d8c0877b"), looks := false }, kinds := [], alts := [], laidByText := true, laidKinds := [.data], laidTests := true, laidLooks := .later }
def ParseRunsUptoCardSaid : Prop := Claim7.holds Tryd.pinned (.plain (OpenSpec.upto parseRunsSpec)) parseRunsUptoCard

/-- THE SECOND FORM's CARD OF 'depotlaw13.ParseTells'. -/
def parseTellsUptoCard : Claim7 := { stood := { row := parseTellsUptoRow, standIns := [], harness := (true, "b0e194a9536f6229d26c00ef33586a4b7b41542c9d1aebf6aa9dbd55d8c0877b"), looks := false }, kinds := [], alts := [], laidByText := true, laidKinds := [.data], laidTests := true, laidLooks := .later }
def ParseTellsUptoCardSaid : Prop := Claim7.holds Tryd.pinned (.plain (OpenSpec.upto parseTellsSpec)) parseTellsUptoCard

/-- THE SECOND FORM's CARD OF 'depotlaw13.ParseCuts'. -/
def parseCutsUptoCard : Claim7 := { stood := { row := parseCutsUptoRow, standIns := [], harness := (true, "b0e194a9536f6229d26c00ef33586a4b7b41542c9d1aebf6aa9dbd55d8c0877b"), looks := false }, kinds := [], alts := [], laidByText := true, laidKinds := [.data], laidTests := true, laidLooks := .later }
def ParseCutsUptoCardSaid : Prop := Claim7.holds Tryd.pinned (.plain (OpenSpec.upto parseCutsSpec)) parseCutsUptoCard

/-- THE SECOND FORM's CARD OF 'depotlaw13.ParseStores'. -/
def parseStoresUptoCard : Claim7 := { stood := { row := parseStoresUptoRow, standIns := [], harness := (true, "b0e194a9536f6229d26c00ef33586a4b7b41542c9d1aebf6aa9dbd55d8c0877b"), looks := false }, kinds := [], alts := [], laidByText := true, laidKinds := [.data, .data, .data, .data], laidTests := true, laidLooks := .later }
def ParseStoresUptoCardSaid : Prop := Claim7.holds Tryd.pinned (.plain (OpenSpec.upto parseStoresSpec)) parseStoresUptoCard

/-- THE SECOND FORM's CARD OF 'depotlaw13.ParseLarge'. -/
def parseLargeUptoCard : Claim7 := { stood := { row := parseLargeUptoRow, standIns := [], harness := (true, "b0e194a9536f6229d26c00ef33586a4b7b41542c9d1aebf6aa9dbd55d8c0877b"), looks := false }, kinds := [], alts := [], laidByText := true, laidKinds := [.data, .data, .data, .data], laidTests := true, laidLooks := .later }
def ParseLargeUptoCardSaid : Prop := Claim7.holds Tryd.pinned (.plain (OpenSpec.upto parseLargeSpec)) parseLargeUptoCard

/-- THE SECOND FORM's CARD OF 'depotlaw13.ParseLines'. -/
def parseLinesUptoCard : Claim7 := { stood := { row := parseLinesUptoRow, standIns := [], harness := (true, "b0e194a9536f6229d26c00ef33586a4b7b41542c9d1aebf6aa9dbd55d8c0877b"), looks := false }, kinds := [], alts := [], laidByText := true, laidKinds := [.data], laidTests := true, laidLooks := .later }
def ParseLinesUptoCardSaid : Prop := Claim7.holds Tryd.pinned (.plain (OpenSpec.upto parseLinesSpec)) parseLinesUptoCard
end Rows
end Go.Proofs.YtedbklipbfbmoaaDoor
