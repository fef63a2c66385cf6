/-
  THE ORDER OF KEYS; as the sort of the library has it.
-/
import Derived.Test.YtpkmfckifnomeaaDoorOrp
import Derived.Shelf.SlSortCmp.WholeK
import Derived.Shelf.SlSortCmp.NoneTotal
namespace Go.Proofs.YtpkmfckifnomeaaDoor
open Go.RowKit Go.Maps Go.Sort Go.Shelf

theorem cb_lt : ∀ a b : B, decide (Lib.compareBytes a b < 0) = bytesBefore a b
  | [], [] => rfl
  | [], _ :: _ => rfl
  | _ :: _, [] => rfl
  | x :: a, y :: b => by
    rw [Lib.compareBytes, bytesBefore, ← cb_lt a b]
    by_cases h : x < y
    · rw [if_pos h]; simp [h]
    · rw [if_neg h]
      by_cases h2 : y < x
      · rw [if_pos h2]
        have hne : ¬ x = y := fun e => by subst e; exact absurd h2 (UInt8.lt_irrefl _)
        simp [h, hne]
      · rw [if_neg h2]
        have he : x = y := by
          rcases u8_tri x y with h3 | h3 | h3
          · exact absurd h3 h
          · exact h3
          · exact absurd h3 h2
        subst he
        simp
/-- What byKey answers. -/
def cmpE (x y : En) : Int := Lib.compareBytes (L x.key) (L y.key)
theorem ltOf_cmpE : ltOf cmpE = ltE := by
  funext x y
  exact cb_lt _ _
theorem swoE : SWO (ltOf cmpE) := by
  rw [ltOf_cmpE]
  exact ⟨fun x => bb_irrefl _, fun x y z => bb_trans _ _ _, fun x y z h k => by
    cases hh : ltE x z with
    | false => rfl
    | true =>
      rcases bb_total (L x.key) (L y.key) with e | e | e
      · have : ltE y z = true := by unfold ltE at hh ⊢; rw [← e]; exact hh
        rw [this] at k; cases k
      · unfold ltE at h; rw [e] at h; cases h
      · have : ltE y z = true := bb_trans _ _ _ e hh
        rw [this] at k; cases k⟩
end Go.Proofs.YtpkmfckifnomeaaDoor
