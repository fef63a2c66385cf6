/-
  No cell of these rows narrows 'for every input' (looked for: loops, veiled, ifaces, maps, wideKeys, modest, calm, conditions, laid).
  DERIVED. THE GIVEN ROWS OF THIS SEAT. 6 by the template 'for every input the law returns true; each argument reads behind the call as it read before'; 0 by the template 'total and deterministic' (their statements: YtadabbodjkdkdaaTotals.lean).
  GIVEN WITH THE SEED: the statements are not yours to turn. If you find one false, say at which input.
  Laid BY PROGRAM, IN A SANDBOX (cutbox-rows.mjs): the forced cells as the released guide's own fill.sh prints them over the translation 0e395605c640e4d7… (all of the seat's roots in one cut). By AI agents, Wed Nov 11 2026. No macro, syntax, notation, axiom, sorry.
-/
import Derived.Test.YtadabbodjkdkdaaChecked
import GoSem.Claim
import GoSem.ClaimJoined
import GoSem.ClaimMapViews
import Derived.JoinedTies
import Derived.KernelRfl
namespace Go.Proofs.Ytadabbodjkdkdaa
/- THE CELL 'sum', in the pinned program and in every row, IS THE sha256 OF THE DUMP (.gsa) THAT YtadabbodjkdkdaaProg.lean LOADS. Nothing in Lean hashes anything: it is a label: what it is worth is what the hold of that sum in a sandbox is worth. -/
noncomputable def Try.pinned : Pinned := { name := "ytadabbodjkdkdaa", sum := "0e395605c640e4d7f4b7959c40d5353671d2669d829c706327f1a215fb6f95bd", checked := Try.checked }
namespace Rows
def none {H : Type} : Left H := { results := [], args := [] }

/-- 'depotlaw1.GfRuns': WHATEVER THE INPUT: true; the input reads as it did. -/
def gfRunsSpec : ChangeSpec := { name := "gfRuns", fn := fun _ => fun
  | [] => { results := [.lit (.bool true)], args := [] }
  | _ => none }
def gfRunsRow : OpenClaim := { program := "ytadabbodjkdkdaa", sum := "0e395605c640e4d7f4b7959c40d5353671d2669d829c706327f1a215fb6f95bd", func := "depot/depotlaw1.GfRuns", spec := "gfRuns", apart := false }
def GfRunsSaid : Prop := gfRunsRow.holds Try.pinned (OpenSpec.ofChange gfRunsSpec)

/-- ITS FALSE NEIGHBOUR: 'it returns false'. Refute it at one input. -/
def gfRunsWrong : ChangeSpec := { name := "gfRuns", fn := fun _ => fun
  | [] => { results := [.lit (.bool false)], args := [] }
  | _ => none }
def GfRunsWrongFalsely : Prop := gfRunsRow.holds Try.pinned (OpenSpec.ofChange gfRunsWrong)

/-- 'depotlaw1.GfTells': WHATEVER THE INPUT: true; the input reads as it did. -/
def gfTellsSpec : ChangeSpec := { name := "gfTells", fn := fun _ => fun
  | [d1, d2, d3, d4] => { results := [.lit (.bool true)], args := [d1, d2, d3, d4] }
  | _ => none }
def gfTellsRow : OpenClaim := { program := "ytadabbodjkdkdaa", sum := "0e395605c640e4d7f4b7959c40d5353671d2669d829c706327f1a215fb6f95bd", func := "depot/depotlaw1.GfTells", spec := "gfTells", apart := false }
def GfTellsSaid : Prop := gfTellsRow.holds Try.pinned (OpenSpec.ofChange gfTellsSpec)

/-- ITS FALSE NEIGHBOUR: 'it returns false'. Refute it at one input. -/
def gfTellsWrong : ChangeSpec := { name := "gfTells", fn := fun _ => fun
  | [d1, d2, d3, d4] => { results := [.lit (.bool false)], args := [d1, d2, d3, d4] }
  | _ => none }
def GfTellsWrongFalsely : Prop := gfTellsRow.holds Try.pinned (OpenSpec.ofChange gfTellsWrong)

/-- 'depotlaw1.GfDot': WHATEVER THE INPUT: true; the input reads as it did. -/
def gfDotSpec : ChangeSpec := { name := "gfDot", fn := fun _ => fun
  | [d1, d2] => { results := [.lit (.bool true)], args := [d1, d2] }
  | _ => none }
def gfDotRow : OpenClaim := { program := "ytadabbodjkdkdaa", sum := "0e395605c640e4d7f4b7959c40d5353671d2669d829c706327f1a215fb6f95bd", func := "depot/depotlaw1.GfDot", spec := "gfDot", apart := false }
def GfDotSaid : Prop := gfDotRow.holds Try.pinned (OpenSpec.ofChange gfDotSpec)

/-- ITS FALSE NEIGHBOUR: 'it returns false'. Refute it at one input. -/
def gfDotWrong : ChangeSpec := { name := "gfDot", fn := fun _ => fun
  | [d1, d2] => { results := [.lit (.bool false)], args := [d1, d2] }
  | _ => none }
def GfDotWrongFalsely : Prop := gfDotRow.holds Try.pinned (OpenSpec.ofChange gfDotWrong)

/-- 'depotlaw1.GfField': WHATEVER THE INPUT: true; the input reads as it did. -/
def gfFieldSpec : ChangeSpec := { name := "gfField", fn := fun _ => fun
  | [d1, d2, d3] => { results := [.lit (.bool true)], args := [d1, d2, d3] }
  | _ => none }
def gfFieldRow : OpenClaim := { program := "ytadabbodjkdkdaa", sum := "0e395605c640e4d7f4b7959c40d5353671d2669d829c706327f1a215fb6f95bd", func := "depot/depotlaw1.GfField", spec := "gfField", apart := false }
def GfFieldSaid : Prop := gfFieldRow.holds Try.pinned (OpenSpec.ofChange gfFieldSpec)

/-- ITS FALSE NEIGHBOUR: 'it returns false'. Refute it at one input. -/
def gfFieldWrong : ChangeSpec := { name := "gfField", fn := fun _ => fun
  | [d1, d2, d3] => { results := [.lit (.bool false)], args := [d1, d2, d3] }
  | _ => none }
def GfFieldWrongFalsely : Prop := gfFieldRow.holds Try.pinned (OpenSpec.ofChange gfFieldWrong)

/-- 'depotlaw1.GfPowers': WHATEVER THE INPUT: true; the input reads as it did. -/
def gfPowersSpec : ChangeSpec := { name := "gfPowers", fn := fun _ => fun
  | [d1, d2, d3] => { results := [.lit (.bool true)], args := [d1, d2, d3] }
  | _ => none }
def gfPowersRow : OpenClaim := { program := "ytadabbodjkdkdaa", sum := "0e395605c640e4d7f4b7959c40d5353671d2669d829c706327f1a215fb6f95bd", func := "depot/depotlaw1.GfPowers", spec := "gfPowers", apart := false }
def GfPowersSaid : Prop := gfPowersRow.holds Try.pinned (OpenSpec.ofChange gfPowersSpec)

/-- ITS FALSE NEIGHBOUR: 'it returns false'. Refute it at one input. -/
def gfPowersWrong : ChangeSpec := { name := "gfPowers", fn := fun _ => fun
  | [d1, d2, d3] => { results := [.lit (.bool false)], args := [d1, d2, d3] }
  | _ => none }
def GfPowersWrongFalsely : Prop := gfPowersRow.holds Try.pinned (OpenSpec.ofChange gfPowersWrong)

/-- 'depotlaw1.GfDots': WHATEVER THE INPUT: true; the input reads as it did. -/
def gfDotsSpec : ChangeSpec := { name := "gfDots", fn := fun _ => fun
  | [d1, d2, d3, d4] => { results := [.lit (.bool true)], args := [d1, d2, d3, d4] }
  | _ => none }
def gfDotsRow : OpenClaim := { program := "ytadabbodjkdkdaa", sum := "0e395605c640e4d7f4b7959c40d5353671d2669d829c706327f1a215fb6f95bd", func := "depot/depotlaw1.GfDots", spec := "gfDots", apart := false }
def GfDotsSaid : Prop := gfDotsRow.holds Try.pinned (OpenSpec.ofChange gfDotsSpec)

/-- ITS FALSE NEIGHBOUR: 'it returns false'. Refute it at one input. -/
def gfDotsWrong : ChangeSpec := { name := "gfDots", fn := fun _ => fun
  | [d1, d2, d3, d4] => { results := [.lit (.bool false)], args := [d1, d2, d3, d4] }
  | _ => none }
def GfDotsWrongFalsely : Prop := gfDotsRow.holds Try.pinned (OpenSpec.ofChange gfDotsWrong)

/- THE SECOND FORM. 'bulk': how many values and letters a reading holds, each counted each time it is reached (what is shared counts as often as it is met; a slice's spare places count too). A statement '..UptoSaid' is the law's where the arguments, and the package variables that the reading takes, are together of bulk at most 1048576: NARROWER than '..Said'. Prove '..Said' where nothing that the law and all that it calls make is longer than what came in: it says more and counts as full. Else prove '..UptoSaid'. A law counts once. -/
mutual
def uptoBulk {H : Type} : DataW H → Nat
  | .lit (.string bytes) => bytes.length + 1
  | .lit _ => 1
  | .nil => 1
  | .ptr d => uptoBulk d + 1
  | .slice elems spare => uptoBulkAll elems + uptoBulkAll spare + 1
  | .agg parts => uptoBulkAll parts + 1
  | .iface _ d => uptoBulk d + 1
  | .map entries => uptoBulkEntries entries + 1
  | .held _ => 1
def uptoBulkAll {H : Type} : List (DataW H) → Nat
  | [] => 0
  | d :: r => uptoBulk d + uptoBulkAll r
def uptoBulkEntries {H : Type} : List (Lit × DataW H) → Nat
  | [] => 0
  | x :: r => uptoBulkEntry x + uptoBulkEntries r
def uptoBulkEntry {H : Type} : Lit × DataW H → Nat
  | (.string bytes, d) => bytes.length + uptoBulk d + 1
  | (_, d) => uptoBulk d + 1
 end
def uptoSmall : (H : Type) → List (DataW H) → Bool := fun _ ds => decide (uptoBulkAll ds ≤ 1048576)
def OpenSpec.upto (s : _root_.Go.ChangeSpec) : _root_.Go.OpenSpec := { _root_.Go.OpenSpec.ofChange s with cond := some uptoSmall }

/-- 'depotlaw1.GfRuns', WHERE WHAT IT READS IS OF BULK AT MOST 1048576: true; the input reads as it did. -/
def gfRunsUptoRow : OpenClaim := { program := "ytadabbodjkdkdaa", sum := "0e395605c640e4d7f4b7959c40d5353671d2669d829c706327f1a215fb6f95bd", func := "depot/depotlaw1.GfRuns", spec := "gfRuns", apart := false, narrowed := true }
def GfRunsUptoSaid : Prop := gfRunsUptoRow.holds Try.pinned (OpenSpec.upto gfRunsSpec)

/-- 'depotlaw1.GfTells', WHERE WHAT IT READS IS OF BULK AT MOST 1048576: true; the input reads as it did. -/
def gfTellsUptoRow : OpenClaim := { program := "ytadabbodjkdkdaa", sum := "0e395605c640e4d7f4b7959c40d5353671d2669d829c706327f1a215fb6f95bd", func := "depot/depotlaw1.GfTells", spec := "gfTells", apart := false, narrowed := true }
def GfTellsUptoSaid : Prop := gfTellsUptoRow.holds Try.pinned (OpenSpec.upto gfTellsSpec)

/-- 'depotlaw1.GfDot', WHERE WHAT IT READS IS OF BULK AT MOST 1048576: true; the input reads as it did. -/
def gfDotUptoRow : OpenClaim := { program := "ytadabbodjkdkdaa", sum := "0e395605c640e4d7f4b7959c40d5353671d2669d829c706327f1a215fb6f95bd", func := "depot/depotlaw1.GfDot", spec := "gfDot", apart := false, narrowed := true }
def GfDotUptoSaid : Prop := gfDotUptoRow.holds Try.pinned (OpenSpec.upto gfDotSpec)

/-- 'depotlaw1.GfField', WHERE WHAT IT READS IS OF BULK AT MOST 1048576: true; the input reads as it did. -/
def gfFieldUptoRow : OpenClaim := { program := "ytadabbodjkdkdaa", sum := "0e395605c640e4d7f4b7959c40d5353671d2669d829c706327f1a215fb6f95bd", func := "depot/depotlaw1.GfField", spec := "gfField", apart := false, narrowed := true }
def GfFieldUptoSaid : Prop := gfFieldUptoRow.holds Try.pinned (OpenSpec.upto gfFieldSpec)

/-- 'depotlaw1.GfPowers', WHERE WHAT IT READS IS OF BULK AT MOST 1048576: true; the input reads as it did. -/
def gfPowersUptoRow : OpenClaim := { program := "ytadabbodjkdkdaa", sum := "0e395605c640e4d7f4b7959c40d5353671d2669d829c706327f1a215fb6f95bd", func := "depot/depotlaw1.GfPowers", spec := "gfPowers", apart := false, narrowed := true }
def GfPowersUptoSaid : Prop := gfPowersUptoRow.holds Try.pinned (OpenSpec.upto gfPowersSpec)

/-- 'depotlaw1.GfDots', WHERE WHAT IT READS IS OF BULK AT MOST 1048576: true; the input reads as it did. -/
def gfDotsUptoRow : OpenClaim := { program := "ytadabbodjkdkdaa", sum := "0e395605c640e4d7f4b7959c40d5353671d2669d829c706327f1a215fb6f95bd", func := "depot/depotlaw1.GfDots", spec := "gfDots", apart := false, narrowed := true }
def GfDotsUptoSaid : Prop := gfDotsUptoRow.holds Try.pinned (OpenSpec.upto gfDotsSpec)

end Rows
end Go.Proofs.Ytadabbodjkdkdaa
