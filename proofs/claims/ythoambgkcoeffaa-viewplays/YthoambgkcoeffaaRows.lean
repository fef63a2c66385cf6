/-
  No cell of these rows narrows 'for every input' (looked for: loops, veiled, ifaces, maps, wideKeys, modest, calm, conditions, laid).
  DERIVED. THE GIVEN ROWS OF THIS SEAT. 4 by the template 'for every input the law returns true; each argument reads behind the call as it read before'; 0 by the template 'total and deterministic' (their statements: YthoambgkcoeffaaTotals.lean).
  GIVEN WITH THE SEED: the statements are not yours to turn. If you find one false, say at which input.
  Laid BY PROGRAM, IN A SANDBOX (cutbox-rows.mjs): the forced cells as the released guide's own fill.sh prints them over the translation 7d7c7cb34e88a6b4… (all of the seat's roots in one cut). By AI agents, Wed Nov 11 2026. No macro, syntax, notation, axiom, sorry.
-/
import Derived.Test.YthoambgkcoeffaaChecked
import GoSem.Claim
import GoSem.ClaimJoined
import GoSem.ClaimMapViews
import Derived.JoinedTies
import Derived.KernelRfl
namespace Go.Proofs.Ythoambgkcoeffaa
/- THE CELL 'sum', in the pinned program and in every row, IS THE sha256 OF THE DUMP (.gsa) THAT YthoambgkcoeffaaProg.lean LOADS. Nothing in Lean hashes anything: it is a label: what it is worth is what the hold of that sum in a sandbox is worth. -/
noncomputable def Try.pinned : Pinned := { name := "ythoambgkcoeffaa", sum := "7d7c7cb34e88a6b4b90c3e58000f7c4e207a4f8a2aa44c5f9c4de725ef9bd63a", checked := Try.checked }
namespace Rows
def none {H : Type} : Left H := { results := [], args := [] }

/-- 'depotlaw18.ViewRuns': WHATEVER THE INPUT: true; the input reads as it did. -/
def viewRunsSpec : ChangeSpec := { name := "viewRuns", fn := fun _ => fun
  | [] => { results := [.lit (.bool true)], args := [] }
  | _ => none }
def viewRunsRow : OpenClaim := { program := "ythoambgkcoeffaa", sum := "7d7c7cb34e88a6b4b90c3e58000f7c4e207a4f8a2aa44c5f9c4de725ef9bd63a", func := "depot/depotlaw18.ViewRuns", spec := "viewRuns", apart := false }
def ViewRunsSaid : Prop := viewRunsRow.holds Try.pinned (OpenSpec.ofChange viewRunsSpec)

/-- ITS FALSE NEIGHBOUR: 'it returns false'. Refute it at one input. -/
def viewRunsWrong : ChangeSpec := { name := "viewRuns", fn := fun _ => fun
  | [] => { results := [.lit (.bool false)], args := [] }
  | _ => none }
def ViewRunsWrongFalsely : Prop := viewRunsRow.holds Try.pinned (OpenSpec.ofChange viewRunsWrong)

/-- 'depotlaw18.ViewPlays': WHATEVER THE INPUT: true; the input reads as it did. -/
def viewPlaysSpec : ChangeSpec := { name := "viewPlays", fn := fun _ => fun
  | [d1, d2, d3] => { results := [.lit (.bool true)], args := [d1, d2, d3] }
  | _ => none }
def viewPlaysRow : OpenClaim := { program := "ythoambgkcoeffaa", sum := "7d7c7cb34e88a6b4b90c3e58000f7c4e207a4f8a2aa44c5f9c4de725ef9bd63a", func := "depot/depotlaw18.ViewPlays", spec := "viewPlays", apart := false }
def ViewPlaysSaid : Prop := viewPlaysRow.holds Try.pinned (OpenSpec.ofChange viewPlaysSpec)

/-- ITS FALSE NEIGHBOUR: 'it returns false'. Refute it at one input. -/
def viewPlaysWrong : ChangeSpec := { name := "viewPlays", fn := fun _ => fun
  | [d1, d2, d3] => { results := [.lit (.bool false)], args := [d1, d2, d3] }
  | _ => none }
def ViewPlaysWrongFalsely : Prop := viewPlaysRow.holds Try.pinned (OpenSpec.ofChange viewPlaysWrong)

/-- 'depotlaw18.ViewUp': WHATEVER THE INPUT: true; the input reads as it did. -/
def viewUpSpec : ChangeSpec := { name := "viewUp", fn := fun _ => fun
  | [d1, d2, d3] => { results := [.lit (.bool true)], args := [d1, d2, d3] }
  | _ => none }
def viewUpRow : OpenClaim := { program := "ythoambgkcoeffaa", sum := "7d7c7cb34e88a6b4b90c3e58000f7c4e207a4f8a2aa44c5f9c4de725ef9bd63a", func := "depot/depotlaw18.ViewUp", spec := "viewUp", apart := false }
def ViewUpSaid : Prop := viewUpRow.holds Try.pinned (OpenSpec.ofChange viewUpSpec)

/-- ITS FALSE NEIGHBOUR: 'it returns false'. Refute it at one input. -/
def viewUpWrong : ChangeSpec := { name := "viewUp", fn := fun _ => fun
  | [d1, d2, d3] => { results := [.lit (.bool false)], args := [d1, d2, d3] }
  | _ => none }
def ViewUpWrongFalsely : Prop := viewUpRow.holds Try.pinned (OpenSpec.ofChange viewUpWrong)

/-- 'depotlaw18.ViewFew': WHATEVER THE INPUT: true; the input reads as it did. -/
def viewFewSpec : ChangeSpec := { name := "viewFew", fn := fun _ => fun
  | [d1, d2, d3] => { results := [.lit (.bool true)], args := [d1, d2, d3] }
  | _ => none }
def viewFewRow : OpenClaim := { program := "ythoambgkcoeffaa", sum := "7d7c7cb34e88a6b4b90c3e58000f7c4e207a4f8a2aa44c5f9c4de725ef9bd63a", func := "depot/depotlaw18.ViewFew", spec := "viewFew", apart := false }
def ViewFewSaid : Prop := viewFewRow.holds Try.pinned (OpenSpec.ofChange viewFewSpec)

/-- ITS FALSE NEIGHBOUR: 'it returns false'. Refute it at one input. -/
def viewFewWrong : ChangeSpec := { name := "viewFew", fn := fun _ => fun
  | [d1, d2, d3] => { results := [.lit (.bool false)], args := [d1, d2, d3] }
  | _ => none }
def ViewFewWrongFalsely : Prop := viewFewRow.holds Try.pinned (OpenSpec.ofChange viewFewWrong)

/- THE SECOND FORM. 'bulk': how many values and letters a reading holds, each counted each time it is reached (what is shared counts as often as it is met; a slice's spare places count too). A statement '..UptoSaid' is the law's where the arguments, and the package variables that the reading takes, are together of bulk at most 1048576: NARROWER than '..Said'. Prove '..Said' where nothing that the law and all that it calls make is longer than what came in: it says more and counts as full. Else prove '..UptoSaid'. A law counts once. -/
mutual
def uptoBulk {H : Type} : DataW H → Nat
  | .lit (.string bytes) => bytes.length + 1
  | .lit _ => 1
  | .nil => 1
  | .ptr d => uptoBulk d + 1
  | .slice elems spare => uptoBulkAll elems + uptoBulkAll spare + 1
  | .agg parts => uptoBulkAll parts + 1
  | .iface _ d => uptoBulk d + 1
  | .map entries => uptoBulkEntries entries + 1
  | .held _ => 1
def uptoBulkAll {H : Type} : List (DataW H) → Nat
  | [] => 0
  | d :: r => uptoBulk d + uptoBulkAll r
def uptoBulkEntries {H : Type} : List (Lit × DataW H) → Nat
  | [] => 0
  | x :: r => uptoBulkEntry x + uptoBulkEntries r
def uptoBulkEntry {H : Type} : Lit × DataW H → Nat
  | (.string bytes, d) => bytes.length + uptoBulk d + 1
  | (_, d) => uptoBulk d + 1
 end
def uptoSmall : (H : Type) → List (DataW H) → Bool := fun _ ds => decide (uptoBulkAll ds ≤ 1048576)
def OpenSpec.upto (s : _root_.Go.ChangeSpec) : _root_.Go.OpenSpec := { _root_.Go.OpenSpec.ofChange s with cond := some uptoSmall }

/-- 'depotlaw18.ViewRuns', WHERE WHAT IT READS IS OF BULK AT MOST 1048576: true; the input reads as it did. -/
def viewRunsUptoRow : OpenClaim := { program := "ythoambgkcoeffaa", sum := "7d7c7cb34e88a6b4b90c3e58000f7c4e207a4f8a2aa44c5f9c4de725ef9bd63a", func := "depot/depotlaw18.ViewRuns", spec := "viewRuns", apart := false, narrowed := true }
def ViewRunsUptoSaid : Prop := viewRunsUptoRow.holds Try.pinned (OpenSpec.upto viewRunsSpec)

/-- 'depotlaw18.ViewPlays', WHERE WHAT IT READS IS OF BULK AT MOST 1048576: true; the input reads as it did. -/
def viewPlaysUptoRow : OpenClaim := { program := "ythoambgkcoeffaa", sum := "7d7c7cb34e88a6b4b90c3e58000f7c4e207a4f8a2aa44c5f9c4de725ef9bd63a", func := "depot/depotlaw18.ViewPlays", spec := "viewPlays", apart := false, narrowed := true }
def ViewPlaysUptoSaid : Prop := viewPlaysUptoRow.holds Try.pinned (OpenSpec.upto viewPlaysSpec)

/-- 'depotlaw18.ViewUp', WHERE WHAT IT READS IS OF BULK AT MOST 1048576: true; the input reads as it did. -/
def viewUpUptoRow : OpenClaim := { program := "ythoambgkcoeffaa", sum := "7d7c7cb34e88a6b4b90c3e58000f7c4e207a4f8a2aa44c5f9c4de725ef9bd63a", func := "depot/depotlaw18.ViewUp", spec := "viewUp", apart := false, narrowed := true }
def ViewUpUptoSaid : Prop := viewUpUptoRow.holds Try.pinned (OpenSpec.upto viewUpSpec)

/-- 'depotlaw18.ViewFew', WHERE WHAT IT READS IS OF BULK AT MOST 1048576: true; the input reads as it did. -/
def viewFewUptoRow : OpenClaim := { program := "ythoambgkcoeffaa", sum := "7d7c7cb34e88a6b4b90c3e58000f7c4e207a4f8a2aa44c5f9c4de725ef9bd63a", func := "depot/depotlaw18.ViewFew", spec := "viewFew", apart := false, narrowed := true }
def ViewFewUptoSaid : Prop := viewFewUptoRow.holds Try.pinned (OpenSpec.upto viewFewSpec)

end Rows
end Go.Proofs.Ythoambgkcoeffaa
