/-
  DERIVED. GIVEN WITH THE SEED: THE CARDS: each row of YtpkmfckifnomeabDoorRows.lean that lists a variable, with what it lists TIED to the program's text (the seventh form; the later family's looks); each row that meets fmt, with fmt's text TOLD by the authors' own Lean function (tested against real Go, not proved from fmt's source: count such statements apart). THE CARD IS WHAT COUNTS. Prove the row's statement (the work); the ties are given (YtpkmfckifnomeabDoorTie.lean); close each card by the builder's one call (the guide's Derived/Test/ToyasCard.lean, 'card_holds'). Laid BY PROGRAM, IN A SANDBOX (cutbox-door.mjs). By AI agents, Wed Nov 11 2026. No macro, syntax, notation, axiom, sorry.
-/
import Derived.Test.YtpkmfckifnomeabDoorRows
import GoSem.ClaimSeven
namespace Go.Proofs.YtpkmfckifnomeabDoor
namespace Rows

/-- THE TIED CARD OF 'depotlaw15.ModelCas'. -/
def modelCasCard : Claim7 := { stood := { row := modelCasRow, standIns := [], harness := (true, "08b7c8bd3bdc223f370755b9e9ca35825ca45637b3340ac381d418f446e87d56"), looks := true }, kinds := [], alts := [], laidByText := true, laidKinds := [.data, .data, .data], laidTests := true, laidLooks := .later }
def ModelCasCardSaid : Prop := Claim7.holds Tryd.pinned (.plain (OpenSpec.ofChange modelCasSpec)) modelCasCard

/-- THE TIED CARD OF 'depotlaw15.ModelAdds'. -/
def modelAddsCard : Claim7 := { stood := { row := modelAddsRow, standIns := [], harness := (true, "08b7c8bd3bdc223f370755b9e9ca35825ca45637b3340ac381d418f446e87d56"), looks := true }, kinds := [], alts := [], laidByText := true, laidKinds := [.data, .data, .data], laidTests := true, laidLooks := .later }
def ModelAddsCardSaid : Prop := Claim7.holds Tryd.pinned (.plain (OpenSpec.ofChange modelAddsSpec)) modelAddsCard

/-- THE SECOND FORM's CARD OF 'depotlaw15.ModelCas'. -/
def modelCasUptoCard : Claim7 := { stood := { row := modelCasUptoRow, standIns := [], harness := (true, "08b7c8bd3bdc223f370755b9e9ca35825ca45637b3340ac381d418f446e87d56"), looks := true }, kinds := [], alts := [], laidByText := true, laidKinds := [.data, .data, .data], laidTests := true, laidLooks := .later }
def ModelCasUptoCardSaid : Prop := Claim7.holds Tryd.pinned (.plain (OpenSpec.upto modelCasSpec)) modelCasUptoCard

/-- THE SECOND FORM's CARD OF 'depotlaw15.ModelAdds'. -/
def modelAddsUptoCard : Claim7 := { stood := { row := modelAddsUptoRow, standIns := [], harness := (true, "08b7c8bd3bdc223f370755b9e9ca35825ca45637b3340ac381d418f446e87d56"), looks := true }, kinds := [], alts := [], laidByText := true, laidKinds := [.data, .data, .data], laidTests := true, laidLooks := .later }
def ModelAddsUptoCardSaid : Prop := Claim7.holds Tryd.pinned (.plain (OpenSpec.upto modelAddsSpec)) modelAddsUptoCard
end Rows
end Go.Proofs.YtpkmfckifnomeabDoor
