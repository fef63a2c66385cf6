/-
  THE LISTED VARIABLE: what the row's condition gives the walks: the verbs' words lie in their table; the start that fits: the heap that the door's own run leaves.
-/
import Derived.Test.YtedbklipbfbmoaaDoorRows
import Derived.Test.YtedbklipbfbmoaaDoorNum
import Derived.ProofKit
import Derived.LaidMore
import Derived.Lib.LaidTab
import Derived.OpenShut
import Derived.Stop.Joined
namespace Go.Proofs.YtedbklipbfbmoaaDoor
open Go.ChangeShapes Go.WideShapes Go.ChangeAt Go.WideMaps Go.WideElems Go.RowKit

theorem gVerbs : Tryd.prog.globalNamed "depot/words.verbs" = some 0 := by kernel_rfl
theorem tVerbs : (Tryd.prog.globals[0]?).map (·.type) = some 93 := by kernel_rfl
/-- The list of the rows that list the one table. -/
def laid1 : List (String × DataW Unit) := [("depot/words.verbs", Rows.laid_depot_words_verbs)]
theorem door_met (os : Os) (args : Array Value) : laidMetH Tryd.prog laid1 ((World.doorLaid Tryd.prog 400 os).forCall (fun _ _ => 0) ⟨#[], args, []⟩).memory :=
  laidMetH_of_parts3 (fuel := 8) (laidMet_of_run' 8 (by kernel_rfl) (by kernel_rfl)) (by kernel_rfl) (by kernel_rfl)
/-- A string out of a reading. -/
theorem verbs_data : (Rows.laid_depot_words_verbs : DataW Unit) = .agg (tab.map fun l => .lit (.string l)) := rfl
theorem hasTab_of_cells {W : World} {cs : List Value} {fuel : Nat} {base : Nat} {sp : Nat → Bool} {held : Bool} {enc : TypeId × Value → Unit} {p : List MemPlace} (h : DataW.trod enc Tryd.prog W base sp held fuel 93 cs = some (Rows.laid_depot_words_verbs, p)) : cs = tab.map fun l => Value.string (S l) := by
  have ht : Tryd.prog.underlying 93 = some (.array 18 9) := by kernel_rfl
  have hce : Tryd.prog.cellsOf 9 = 1 := by kernel_rfl
  have hct : Tryd.prog.cellsOf 93 = 18 := by kernel_rfl
  cases fuel with
  | zero => simp [DataW.trod] at h
  | succ fuel =>
    simp only [DataW.trod, ht, hce, hct, Nat.mul_one] at h
    split at h
    · rename_i hl
      obtain ⟨xs, hm, hx⟩ := Option.map_eq_some_iff.1 h
      have hxs : xs.map (·.1) = tab.map fun l => (DataW.lit (.string l) : DataW Unit) := by
        have := congrArg Prod.fst hx
        rw [verbs_data] at this
        simpa using this
      have hxl : xs.length = 18 := by simpa using Lib.mapM_length hm
      apply List.ext_getElem?
      intro i
      by_cases hi : i < 18
      · obtain ⟨b, hb, hf⟩ := Lib.mapM_at hm i i (by simp [hi])
        obtain ⟨z, hc, hz, _⟩ := DataW.trod_string Tryd.underlying9 hf
        have h1 : cs[i]? = some (.string z) := by
          have := congrArg (·[0]?) hc
          simpa [List.getElem?_take, List.getElem?_drop] using this
        have h2 : (xs.map (·.1))[i]? = some (DataW.lit (.string z.data.toList) : DataW Unit) := by simp [hb, hz]
        rw [hxs] at h2
        simp only [List.getElem?_map, Option.map_eq_some_iff, DataW.lit.injEq, Lit.string.injEq] at h2
        obtain ⟨l, hl', e⟩ := h2
        rw [h1, List.getElem?_map, hl']
        simp only [Option.map_some, Option.some.injEq, Value.string.injEq]
        rw [e]; rfl
      · rw [List.getElem?_eq_none (by omega), List.getElem?_eq_none (by rw [List.length_map, show tab.length = 18 from rfl]; omega)]
    · cases h
/-- What the condition gives the walks. -/
theorem of_laid {W : World} (h : laidMetH Tryd.prog laid1 W) : HasTab W := by
  rw [MakeChecks.laidMetH_plain _ _ _ (by kernel_rfl)] at h
  obtain ⟨ps, ⟨g0, t0, cs0, f0, p0, q0, hg0, ht0, hv0, hd0, _, _⟩, _, _⟩ := h
  obtain rfl := Option.some.inj (gVerbs.symm.trans hg0)
  obtain rfl := Option.some.inj (tVerbs.symm.trans ht0)
  have hcs := hasTab_of_cells hd0
  intro i x hx
  have := World.var?_cell hg0 hv0 i
  rw [this]
  have e : cs0[i]? = (tab.map fun l => Value.string (S l))[i]? := by rw [← hcs, Array.getElem?_toList]
  rw [e]
  simp [hx]
end Go.Proofs.YtedbklipbfbmoaaDoor
