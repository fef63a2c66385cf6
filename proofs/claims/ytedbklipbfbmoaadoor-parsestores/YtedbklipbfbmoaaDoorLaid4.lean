/-
  FOUR LISTED VARIABLES: the verbs' words, and the tables that FormatUint's road names.
-/
import Derived.Test.YtedbklipbfbmoaaDoorLaid
import Derived.Test.YtedbklipbfbmoaaDoorShelfN
namespace Go.Proofs.YtedbklipbfbmoaaDoor
open Go.ChangeShapes Go.WideShapes Go.ChangeAt Go.WideMaps Go.WideElems Go.RowKit

theorem gPow : Tryd.prog.globalNamed "internal/strconv.uint64pow10" = some 2 := by kernel_rfl
theorem tPow : (Tryd.prog.globals[2]?).map (·.type) = some 119 := by kernel_rfl
def laid4 : List (String × DataW Unit) := [("math/bits.deBruijn32tab", Rows.laid_math_bits_deBruijn32tab), ("math/bits.deBruijn64tab", Rows.laid_math_bits_deBruijn64tab), ("internal/strconv.uint64pow10", Rows.laid_internal_strconv_uint64pow10), ("depot/words.verbs", Rows.laid_depot_words_verbs)]
theorem door_met4 (os : Os) (args : Array Value) : laidMetH Tryd.prog laid4 ((World.doorLaid Tryd.prog 400 os).forCall (fun _ _ => 0) ⟨#[], args, []⟩).memory :=
  laidMetH_of_parts3 (fuel := 8) (laidMet_of_run' 8 (by kernel_rfl) (by kernel_rfl)) (by kernel_rfl) (by kernel_rfl)
theorem pow_data : (Rows.laid_internal_strconv_uint64pow10 : DataW Unit) = Lib.tabData .u64 Lib.pow10Tab := rfl
theorem of_laid4 {W : World} (h : laidMetH Tryd.prog laid4 W) : HasTab W ∧ Lib.TabIs Tryd.prog W "internal/strconv.uint64pow10" .u64 Lib.pow10Tab := by
  rw [MakeChecks.laidMetH_plain _ _ _ (by kernel_rfl)] at h
  obtain ⟨ps, ⟨g0, t0, cs0, f0, p0, q0, hg0, ht0, hv0, hd0, ⟨g1, t1, cs1, f1, p1, q1, hg1, ht1, hv1, hd1, ⟨g2, t2, cs2, f2, p2, q2, hg2, ht2, hv2, hd2, ⟨g3, t3, cs3, f3, p3, q3, hg3, ht3, hv3, hd3, _, _⟩, _⟩, _⟩, _⟩, _, _⟩ := h
  obtain rfl := Option.some.inj (gPow.symm.trans hg2)
  obtain rfl := Option.some.inj (tPow.symm.trans ht2)
  obtain rfl := Option.some.inj (gVerbs.symm.trans hg3)
  obtain rfl := Option.some.inj (tVerbs.symm.trans ht3)
  constructor
  · have hcs := hasTab_of_cells hd3
    intro i x hx
    have := World.var?_cell hg3 hv3 i
    rw [this]
    have e : cs3[i]? = (tab.map fun l => Value.string (S l))[i]? := by rw [← hcs, Array.getElem?_toList]
    rw [e]
    simp [hx]
  · unfold Lib.TabIs
    rw [hv2, ← Lib.cells_of_tab (t := 119) (e := 28) (n := 20) (by kernel_rfl) (by kernel_rfl) (by kernel_rfl) (by kernel_rfl) (hd2.trans (by rw [pow_data]))]
end Go.Proofs.YtedbklipbfbmoaaDoor
