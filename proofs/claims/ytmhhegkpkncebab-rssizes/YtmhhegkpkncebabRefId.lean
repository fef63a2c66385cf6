/-
  IDENTITY of the reference: its contract.
-/
import Derived.Test.YtmhhegkpkncebabSquare
import Derived.Test.YtmhhegkpkncebabLin
namespace Go.Proofs.Ytmhhegkpkncebab
open Go.RowKit

/-- Rows that are the call's own, read. -/
theorem own_matF {w : World} {B m n : Nat} {v : Value} {xs : List Value} {A : Nat → Nat → Nat} (hm : 1 ≤ m) (hown : w.ownsRow B 44 1 v m xs) (hr : RowsOwn w xs A n m) : ∃ g cap, v = .slice (some ⟨g, 0, none⟩) m cap ∧ MatF w (some ⟨g, 0, none⟩) A m n ∧ m ≤ cap := by
  rcases hown.2 with ⟨_, h0⟩ | ⟨g, cap, cur, rfl, _, hh, hcap, _, hcs, hx⟩
  · exfalso; omega
  · refine ⟨g, cap, rfl, Or.inr ⟨g, 0, rfl, fun i hi => ?_⟩, hcap⟩
    obtain ⟨p, R, h1, h2, h3, h4⟩ := hr i hi
    refine ⟨some ⟨p, 0, none⟩, n, ?_, Nat.le_refl _, Or.inr ⟨p, 0, rfl, fun j hj => ?_⟩⟩
    · rw [Nat.zero_add, cell_of_row w g i cur 44 (0, 0) hh, ← h1, ← hx, List.getElem?_take_of_lt (by omega)]; simp
    · rw [Nat.zero_add, cell_of_row w p j R 5 (0, 0) h2]; exact h4 j hj

end Go.Proofs.Ytmhhegkpkncebab
