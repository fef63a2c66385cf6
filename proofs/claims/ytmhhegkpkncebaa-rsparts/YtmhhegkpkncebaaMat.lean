/-
  MATRICES IN MEMORY: rows of one length behind a slice of slices; the law's own 'same'.
-/
import Derived.Test.YtmhhegkpkncebaaBookM
namespace Go.Proofs.Ytmhhegkpkncebaa
open Go.RowKit

/-- m rows of n bytes lie at a: row i holds A i's numbers. -/
def MatF (w : World) (a : Option Addr) (A : Nat → Nat → Nat) (m n : Nat) : Prop :=
  m = 0 ∨ ∃ p off, a = some ⟨p, off, none⟩ ∧ ∀ i, i < m → ∃ ra rc, w.cell? ⟨p, off + i, none⟩ = some (.slice ra n rc) ∧ n ≤ rc ∧ RowF w ra (A i) n
theorem MatF.below {w w' : World} {a : Option Addr} {A : Nat → Nat → Nat} {m n : Nat} (h : MatF w a A m n) (hb : Below w.heap.size w w') : MatF w' a A m n := by
  rcases h with h | ⟨p, off, e, hr⟩
  · exact Or.inl h
  · refine Or.inr ⟨p, off, e, fun i hi => ?_⟩
    obtain ⟨ra, rc, h1, h2, h3⟩ := hr i hi
    exact ⟨ra, rc, cell_later hb h1, h2, h3.below hb⟩
theorem RowF.drewN {w : World} {a : Option Addr} {f : Nat → Nat} {n : Nat} (h : RowF w a f n) (k : Nat) : RowF (w.drewN k) a f n := h

end Go.Proofs.Ytmhhegkpkncebaa
