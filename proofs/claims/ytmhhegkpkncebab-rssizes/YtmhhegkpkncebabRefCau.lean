/-
  CAUCHY of the reference: its contract.
-/
import Derived.Test.YtmhhegkpkncebabRefId
import Derived.Test.YtmhhegkpkncebabRefM
import Derived.Test.YtmhhegkpkncebabPoly
namespace Go.Proofs.Ytmhhegkpkncebab
open Go.RowKit

theorem RowsOwn.congr {w : World} {xs : List Value} {A A' : Nat → Nat → Nat} {n i : Nat} (h : RowsOwn w xs A n i) (e : ∀ t, t < i → ∀ j, j < n → A t j = A' t j) : RowsOwn w xs A' n i := by
  intro t ht
  obtain ⟨p, R, h1, h2, h3, h4⟩ := h t ht
  exact ⟨p, R, h1, h2, h3, fun j hj => by rw [h4 j hj, e t ht j hj]⟩

end Go.Proofs.Ytmhhegkpkncebab
