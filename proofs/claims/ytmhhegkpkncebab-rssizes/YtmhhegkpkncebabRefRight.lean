/-
  RIGHT of the reference: its contract, for rows of whatever lengths.
-/
import Derived.Test.YtmhhegkpkncebabSquare
namespace Go.Proofs.Ytmhhegkpkncebab
open Go.RowKit

/-- m rows lie at a: row i has L i bytes, A i's numbers. -/
def MatL (w : World) (a : Option Addr) (A : Nat → Nat → Nat) (L : Nat → Nat) (m : Nat) : Prop :=
  m = 0 ∨ ∃ p off, a = some ⟨p, off, none⟩ ∧ ∀ i, i < m → ∃ ra rc, w.cell? ⟨p, off + i, none⟩ = some (.slice ra (L i) rc) ∧ L i ≤ rc ∧ RowF w ra (A i) (L i)
/-- Is it a matrix? -/
def Good (L : Nat → Nat) (m : Nat) : Prop := 1 ≤ m ∧ m ≤ 12 ∧ ∀ i, i < m → L i = L 0 ∧ 1 ≤ L i ∧ L i ≤ 12

end Go.Proofs.Ytmhhegkpkncebab
