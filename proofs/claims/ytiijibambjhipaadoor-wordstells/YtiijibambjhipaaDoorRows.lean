/-
  NARROWER THAN 'FOR EVERY INPUT', by the rows' own cells (each row's printed sentence says how): WordsRuns: laid · WordsTells: laid · WordsSplit: laid · WordsNumbers: laid · WordsQuiet: laid · WordsKeys: laid.
  DERIVED. THE GIVEN ROWS OF THIS SEAT. 6 by the template 'for every input the law returns true; each argument reads behind the call as it read before'; 0 by the template 'total and deterministic' (their statements: YtiijibambjhipaaDoorTotals.lean).
  GIVEN WITH THE SEED: the statements are not yours to turn. If you find one false, say at which input.
  Laid BY PROGRAM, IN A SANDBOX (cutbox-rows.mjs): the forced cells as the released guide's own fill.sh prints them over the translation 32cc318e43ff6185… (all of the seat's roots in one cut). By AI agents, Wed Nov 11 2026. No macro, syntax, notation, axiom, sorry.
-/
import Derived.Test.YtiijibambjhipaaDoorChecked
import GoSem.Claim
import GoSem.ClaimJoined
import GoSem.ClaimMapViews
import Derived.JoinedTies
import Derived.KernelRfl
namespace Go.Proofs.YtiijibambjhipaaDoor
/- THE CELL 'sum', in the pinned program and in every row, IS THE sha256 OF THE DUMP (.gsa) THAT YtiijibambjhipaaDoorProg.lean LOADS. Nothing in Lean hashes anything: it is a label: what it is worth is what the hold of that sum in a sandbox is worth. -/
noncomputable def Tryd.pinned : Pinned := { name := "ytiijibambjhipaadoor", sum := "32cc318e43ff61852fd235067fc59f53e220e41d4178e4ca1b7961df5b4e1225", checked := Tryd.checked }
namespace Rows
def none {H : Type} : Left H := { results := [], args := [] }

/- WHAT THE LISTED PACKAGE-LEVEL VARIABLES READ AS WHEN THE CALL BEGINS. Each datum BY PROGRAM (the guide's laid-datum.mjs) off the statement by which the dump's own 'gosem.cut.vars' lays the variable. In a bare row this is a premise. The card (YtiijibambjhipaaDoorCards.lean) ties it to the program's text. -/
def laid_depot_words_verbs {H : Type} : DataW H := .agg [.lit (.string []), .lit (.string [103, 101, 116]), .lit (.string [103, 101, 116, 115]), .lit (.string [115, 101, 116]), .lit (.string [97, 100, 100]), .lit (.string [114, 101, 112, 108, 97, 99, 101]), .lit (.string [97, 112, 112, 101, 110, 100]), .lit (.string [112, 114, 101, 112, 101, 110, 100]), .lit (.string [99, 97, 115]), .lit (.string [100, 101, 108, 101, 116, 101]), .lit (.string [105, 110, 99, 114]), .lit (.string [100, 101, 99, 114]), .lit (.string [116, 111, 117, 99, 104]), .lit (.string [102, 108, 117, 115, 104, 95, 97, 108, 108]), .lit (.string [118, 101, 114, 115, 105, 111, 110]), .lit (.string [118, 101, 114, 98, 111, 115, 105, 116, 121]), .lit (.string [115, 116, 97, 116, 115]), .lit (.string [113, 117, 105, 116])]
def laid_math_bits_deBruijn32tab {H : Type} : DataW H := .agg [.lit (.int .u8 0), .lit (.int .u8 1), .lit (.int .u8 28), .lit (.int .u8 2), .lit (.int .u8 29), .lit (.int .u8 14), .lit (.int .u8 24), .lit (.int .u8 3), .lit (.int .u8 30), .lit (.int .u8 22), .lit (.int .u8 20), .lit (.int .u8 15), .lit (.int .u8 25), .lit (.int .u8 17), .lit (.int .u8 4), .lit (.int .u8 8), .lit (.int .u8 31), .lit (.int .u8 27), .lit (.int .u8 13), .lit (.int .u8 23), .lit (.int .u8 21), .lit (.int .u8 19), .lit (.int .u8 16), .lit (.int .u8 7), .lit (.int .u8 26), .lit (.int .u8 12), .lit (.int .u8 18), .lit (.int .u8 6), .lit (.int .u8 11), .lit (.int .u8 5), .lit (.int .u8 10), .lit (.int .u8 9)]
def laid_math_bits_deBruijn64tab {H : Type} : DataW H := .agg [.lit (.int .u8 0), .lit (.int .u8 1), .lit (.int .u8 56), .lit (.int .u8 2), .lit (.int .u8 57), .lit (.int .u8 49), .lit (.int .u8 28), .lit (.int .u8 3), .lit (.int .u8 61), .lit (.int .u8 58), .lit (.int .u8 42), .lit (.int .u8 50), .lit (.int .u8 38), .lit (.int .u8 29), .lit (.int .u8 17), .lit (.int .u8 4), .lit (.int .u8 62), .lit (.int .u8 47), .lit (.int .u8 59), .lit (.int .u8 36), .lit (.int .u8 45), .lit (.int .u8 43), .lit (.int .u8 51), .lit (.int .u8 22), .lit (.int .u8 53), .lit (.int .u8 39), .lit (.int .u8 33), .lit (.int .u8 30), .lit (.int .u8 24), .lit (.int .u8 18), .lit (.int .u8 12), .lit (.int .u8 5), .lit (.int .u8 63), .lit (.int .u8 55), .lit (.int .u8 48), .lit (.int .u8 27), .lit (.int .u8 60), .lit (.int .u8 41), .lit (.int .u8 37), .lit (.int .u8 16), .lit (.int .u8 46), .lit (.int .u8 35), .lit (.int .u8 44), .lit (.int .u8 21), .lit (.int .u8 52), .lit (.int .u8 32), .lit (.int .u8 23), .lit (.int .u8 11), .lit (.int .u8 54), .lit (.int .u8 26), .lit (.int .u8 40), .lit (.int .u8 15), .lit (.int .u8 34), .lit (.int .u8 20), .lit (.int .u8 31), .lit (.int .u8 10), .lit (.int .u8 25), .lit (.int .u8 14), .lit (.int .u8 19), .lit (.int .u8 9), .lit (.int .u8 13), .lit (.int .u8 8), .lit (.int .u8 7), .lit (.int .u8 6)]
def laid_internal_strconv_uint64pow10 {H : Type} : DataW H := .agg [.lit (.int .u64 1), .lit (.int .u64 10), .lit (.int .u64 100), .lit (.int .u64 1000), .lit (.int .u64 10000), .lit (.int .u64 100000), .lit (.int .u64 1000000), .lit (.int .u64 10000000), .lit (.int .u64 100000000), .lit (.int .u64 1000000000), .lit (.int .u64 10000000000), .lit (.int .u64 100000000000), .lit (.int .u64 1000000000000), .lit (.int .u64 10000000000000), .lit (.int .u64 100000000000000), .lit (.int .u64 1000000000000000), .lit (.int .u64 10000000000000000), .lit (.int .u64 100000000000000000), .lit (.int .u64 1000000000000000000), .lit (.int .u64 10000000000000000000)]

/-- 'depotlaw12.WordsRuns': WHATEVER THE INPUT: true; the input reads as it did. -/
def wordsRunsSpec : ChangeSpec := { name := "wordsRuns", fn := fun _ => fun
  | [] => { results := [.lit (.bool true)], args := [] }
  | _ => none }
def wordsRunsRow : OpenClaim := { program := "ytiijibambjhipaadoor", sum := "32cc318e43ff61852fd235067fc59f53e220e41d4178e4ca1b7961df5b4e1225", func := "depot/depotlaw12.WordsRuns", spec := "wordsRuns", named := ["depot/words.verbs"], apart := false, laid := [("depot/words.verbs", laid_depot_words_verbs)] }
def WordsRunsSaid : Prop := wordsRunsRow.holds Tryd.pinned (OpenSpec.ofChange wordsRunsSpec)

/-- ITS FALSE NEIGHBOUR: 'it returns false'. Refute it at one input. -/
def wordsRunsWrong : ChangeSpec := { name := "wordsRuns", fn := fun _ => fun
  | [] => { results := [.lit (.bool false)], args := [] }
  | _ => none }
def WordsRunsWrongFalsely : Prop := wordsRunsRow.holds Tryd.pinned (OpenSpec.ofChange wordsRunsWrong)

/-- 'depotlaw12.WordsTells': WHATEVER THE INPUT: true; the input reads as it did. -/
def wordsTellsSpec : ChangeSpec := { name := "wordsTells", fn := fun _ => fun
  | [d1, d2, d3, d4] => { results := [.lit (.bool true)], args := [d1, d2, d3, d4] }
  | _ => none }
def wordsTellsRow : OpenClaim := { program := "ytiijibambjhipaadoor", sum := "32cc318e43ff61852fd235067fc59f53e220e41d4178e4ca1b7961df5b4e1225", func := "depot/depotlaw12.WordsTells", spec := "wordsTells", named := ["depot/words.verbs"], apart := false, laid := [("depot/words.verbs", laid_depot_words_verbs)] }
def WordsTellsSaid : Prop := wordsTellsRow.holds Tryd.pinned (OpenSpec.ofChange wordsTellsSpec)

/-- ITS FALSE NEIGHBOUR: 'it returns false'. Refute it at one input. -/
def wordsTellsWrong : ChangeSpec := { name := "wordsTells", fn := fun _ => fun
  | [d1, d2, d3, d4] => { results := [.lit (.bool false)], args := [d1, d2, d3, d4] }
  | _ => none }
def WordsTellsWrongFalsely : Prop := wordsTellsRow.holds Tryd.pinned (OpenSpec.ofChange wordsTellsWrong)

/-- 'depotlaw12.WordsSplit': WHATEVER THE INPUT: true; the input reads as it did. -/
def wordsSplitSpec : ChangeSpec := { name := "wordsSplit", fn := fun _ => fun
  | [d1, d2, d3] => { results := [.lit (.bool true)], args := [d1, d2, d3] }
  | _ => none }
def wordsSplitRow : OpenClaim := { program := "ytiijibambjhipaadoor", sum := "32cc318e43ff61852fd235067fc59f53e220e41d4178e4ca1b7961df5b4e1225", func := "depot/depotlaw12.WordsSplit", spec := "wordsSplit", named := ["depot/words.verbs"], apart := false, laid := [("depot/words.verbs", laid_depot_words_verbs)] }
def WordsSplitSaid : Prop := wordsSplitRow.holds Tryd.pinned (OpenSpec.ofChange wordsSplitSpec)

/-- ITS FALSE NEIGHBOUR: 'it returns false'. Refute it at one input. -/
def wordsSplitWrong : ChangeSpec := { name := "wordsSplit", fn := fun _ => fun
  | [d1, d2, d3] => { results := [.lit (.bool false)], args := [d1, d2, d3] }
  | _ => none }
def WordsSplitWrongFalsely : Prop := wordsSplitRow.holds Tryd.pinned (OpenSpec.ofChange wordsSplitWrong)

/-- 'depotlaw12.WordsNumbers': WHATEVER THE INPUT: true; the input reads as it did. -/
def wordsNumbersSpec : ChangeSpec := { name := "wordsNumbers", fn := fun _ => fun
  | [d1, d2] => { results := [.lit (.bool true)], args := [d1, d2] }
  | _ => none }
def wordsNumbersRow : OpenClaim := { program := "ytiijibambjhipaadoor", sum := "32cc318e43ff61852fd235067fc59f53e220e41d4178e4ca1b7961df5b4e1225", func := "depot/depotlaw12.WordsNumbers", spec := "wordsNumbers", named := ["internal/strconv.uint64pow10", "math/bits.deBruijn32tab", "math/bits.deBruijn64tab", "depot/words.verbs"], apart := false, laid := [("math/bits.deBruijn32tab", laid_math_bits_deBruijn32tab), ("math/bits.deBruijn64tab", laid_math_bits_deBruijn64tab), ("internal/strconv.uint64pow10", laid_internal_strconv_uint64pow10), ("depot/words.verbs", laid_depot_words_verbs)] }
def WordsNumbersSaid : Prop := wordsNumbersRow.holds Tryd.pinned (OpenSpec.ofChange wordsNumbersSpec)

/-- ITS FALSE NEIGHBOUR: 'it returns false'. Refute it at one input. -/
def wordsNumbersWrong : ChangeSpec := { name := "wordsNumbers", fn := fun _ => fun
  | [d1, d2] => { results := [.lit (.bool false)], args := [d1, d2] }
  | _ => none }
def WordsNumbersWrongFalsely : Prop := wordsNumbersRow.holds Tryd.pinned (OpenSpec.ofChange wordsNumbersWrong)

/-- 'depotlaw12.WordsQuiet': WHATEVER THE INPUT: true; the input reads as it did. -/
def wordsQuietSpec : ChangeSpec := { name := "wordsQuiet", fn := fun _ => fun
  | [d] => { results := [.lit (.bool true)], args := [d] }
  | _ => none }
def wordsQuietRow : OpenClaim := { program := "ytiijibambjhipaadoor", sum := "32cc318e43ff61852fd235067fc59f53e220e41d4178e4ca1b7961df5b4e1225", func := "depot/depotlaw12.WordsQuiet", spec := "wordsQuiet", named := ["depot/words.verbs"], apart := false, laid := [("depot/words.verbs", laid_depot_words_verbs)] }
def WordsQuietSaid : Prop := wordsQuietRow.holds Tryd.pinned (OpenSpec.ofChange wordsQuietSpec)

/-- ITS FALSE NEIGHBOUR: 'it returns false'. Refute it at one input. -/
def wordsQuietWrong : ChangeSpec := { name := "wordsQuiet", fn := fun _ => fun
  | [d] => { results := [.lit (.bool false)], args := [d] }
  | _ => none }
def WordsQuietWrongFalsely : Prop := wordsQuietRow.holds Tryd.pinned (OpenSpec.ofChange wordsQuietWrong)

/-- 'depotlaw12.WordsKeys': WHATEVER THE INPUT: true; the input reads as it did. -/
def wordsKeysSpec : ChangeSpec := { name := "wordsKeys", fn := fun _ => fun
  | [d1, d2] => { results := [.lit (.bool true)], args := [d1, d2] }
  | _ => none }
def wordsKeysRow : OpenClaim := { program := "ytiijibambjhipaadoor", sum := "32cc318e43ff61852fd235067fc59f53e220e41d4178e4ca1b7961df5b4e1225", func := "depot/depotlaw12.WordsKeys", spec := "wordsKeys", named := ["depot/words.verbs"], apart := false, laid := [("depot/words.verbs", laid_depot_words_verbs)] }
def WordsKeysSaid : Prop := wordsKeysRow.holds Tryd.pinned (OpenSpec.ofChange wordsKeysSpec)

/-- ITS FALSE NEIGHBOUR: 'it returns false'. Refute it at one input. -/
def wordsKeysWrong : ChangeSpec := { name := "wordsKeys", fn := fun _ => fun
  | [d1, d2] => { results := [.lit (.bool false)], args := [d1, d2] }
  | _ => none }
def WordsKeysWrongFalsely : Prop := wordsKeysRow.holds Tryd.pinned (OpenSpec.ofChange wordsKeysWrong)

/- THE SECOND FORM. 'bulk': how many values and letters a reading holds, each counted each time it is reached (what is shared counts as often as it is met; a slice's spare places count too). A statement '..UptoSaid' is the law's where the arguments, and the package variables that the reading takes, are together of bulk at most 1048576: NARROWER than '..Said'. Prove '..Said' where nothing that the law and all that it calls make is longer than what came in: it says more and counts as full. Else prove '..UptoSaid'. A law counts once. -/
mutual
def uptoBulk {H : Type} : DataW H → Nat
  | .lit (.string bytes) => bytes.length + 1
  | .lit _ => 1
  | .nil => 1
  | .ptr d => uptoBulk d + 1
  | .slice elems spare => uptoBulkAll elems + uptoBulkAll spare + 1
  | .agg parts => uptoBulkAll parts + 1
  | .iface _ d => uptoBulk d + 1
  | .map entries => uptoBulkEntries entries + 1
  | .held _ => 1
def uptoBulkAll {H : Type} : List (DataW H) → Nat
  | [] => 0
  | d :: r => uptoBulk d + uptoBulkAll r
def uptoBulkEntries {H : Type} : List (Lit × DataW H) → Nat
  | [] => 0
  | x :: r => uptoBulkEntry x + uptoBulkEntries r
def uptoBulkEntry {H : Type} : Lit × DataW H → Nat
  | (.string bytes, d) => bytes.length + uptoBulk d + 1
  | (_, d) => uptoBulk d + 1
 end
def uptoSmall : (H : Type) → List (DataW H) → Bool := fun _ ds => decide (uptoBulkAll ds ≤ 1048576)
def OpenSpec.upto (s : _root_.Go.ChangeSpec) : _root_.Go.OpenSpec := { _root_.Go.OpenSpec.ofChange s with cond := some uptoSmall }

/-- 'depotlaw12.WordsRuns', WHERE WHAT IT READS IS OF BULK AT MOST 1048576: true; the input reads as it did. -/
def wordsRunsUptoRow : OpenClaim := { program := "ytiijibambjhipaadoor", sum := "32cc318e43ff61852fd235067fc59f53e220e41d4178e4ca1b7961df5b4e1225", func := "depot/depotlaw12.WordsRuns", spec := "wordsRuns", named := ["depot/words.verbs"], apart := false, laid := [("depot/words.verbs", laid_depot_words_verbs)], narrowed := true }
def WordsRunsUptoSaid : Prop := wordsRunsUptoRow.holds Tryd.pinned (OpenSpec.upto wordsRunsSpec)

/-- 'depotlaw12.WordsTells', WHERE WHAT IT READS IS OF BULK AT MOST 1048576: true; the input reads as it did. -/
def wordsTellsUptoRow : OpenClaim := { program := "ytiijibambjhipaadoor", sum := "32cc318e43ff61852fd235067fc59f53e220e41d4178e4ca1b7961df5b4e1225", func := "depot/depotlaw12.WordsTells", spec := "wordsTells", named := ["depot/words.verbs"], apart := false, laid := [("depot/words.verbs", laid_depot_words_verbs)], narrowed := true }
def WordsTellsUptoSaid : Prop := wordsTellsUptoRow.holds Tryd.pinned (OpenSpec.upto wordsTellsSpec)

/-- 'depotlaw12.WordsSplit', WHERE WHAT IT READS IS OF BULK AT MOST 1048576: true; the input reads as it did. -/
def wordsSplitUptoRow : OpenClaim := { program := "ytiijibambjhipaadoor", sum := "32cc318e43ff61852fd235067fc59f53e220e41d4178e4ca1b7961df5b4e1225", func := "depot/depotlaw12.WordsSplit", spec := "wordsSplit", named := ["depot/words.verbs"], apart := false, laid := [("depot/words.verbs", laid_depot_words_verbs)], narrowed := true }
def WordsSplitUptoSaid : Prop := wordsSplitUptoRow.holds Tryd.pinned (OpenSpec.upto wordsSplitSpec)

/-- 'depotlaw12.WordsNumbers', WHERE WHAT IT READS IS OF BULK AT MOST 1048576: true; the input reads as it did. -/
def wordsNumbersUptoRow : OpenClaim := { program := "ytiijibambjhipaadoor", sum := "32cc318e43ff61852fd235067fc59f53e220e41d4178e4ca1b7961df5b4e1225", func := "depot/depotlaw12.WordsNumbers", spec := "wordsNumbers", named := ["internal/strconv.uint64pow10", "math/bits.deBruijn32tab", "math/bits.deBruijn64tab", "depot/words.verbs"], apart := false, laid := [("math/bits.deBruijn32tab", laid_math_bits_deBruijn32tab), ("math/bits.deBruijn64tab", laid_math_bits_deBruijn64tab), ("internal/strconv.uint64pow10", laid_internal_strconv_uint64pow10), ("depot/words.verbs", laid_depot_words_verbs)], narrowed := true }
def WordsNumbersUptoSaid : Prop := wordsNumbersUptoRow.holds Tryd.pinned (OpenSpec.upto wordsNumbersSpec)

/-- 'depotlaw12.WordsQuiet', WHERE WHAT IT READS IS OF BULK AT MOST 1048576: true; the input reads as it did. -/
def wordsQuietUptoRow : OpenClaim := { program := "ytiijibambjhipaadoor", sum := "32cc318e43ff61852fd235067fc59f53e220e41d4178e4ca1b7961df5b4e1225", func := "depot/depotlaw12.WordsQuiet", spec := "wordsQuiet", named := ["depot/words.verbs"], apart := false, laid := [("depot/words.verbs", laid_depot_words_verbs)], narrowed := true }
def WordsQuietUptoSaid : Prop := wordsQuietUptoRow.holds Tryd.pinned (OpenSpec.upto wordsQuietSpec)

/-- 'depotlaw12.WordsKeys', WHERE WHAT IT READS IS OF BULK AT MOST 1048576: true; the input reads as it did. -/
def wordsKeysUptoRow : OpenClaim := { program := "ytiijibambjhipaadoor", sum := "32cc318e43ff61852fd235067fc59f53e220e41d4178e4ca1b7961df5b4e1225", func := "depot/depotlaw12.WordsKeys", spec := "wordsKeys", named := ["depot/words.verbs"], apart := false, laid := [("depot/words.verbs", laid_depot_words_verbs)], narrowed := true }
def WordsKeysUptoSaid : Prop := wordsKeysUptoRow.holds Tryd.pinned (OpenSpec.upto wordsKeysSpec)

end Rows
end Go.Proofs.YtiijibambjhipaaDoor
