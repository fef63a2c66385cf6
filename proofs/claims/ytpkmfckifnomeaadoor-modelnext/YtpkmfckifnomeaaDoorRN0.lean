/-
  THE REFERENCE's Next: its memory; a region's one end.
-/
import Derived.Test.YtpkmfckifnomeaaDoorRNx0
namespace Go.Proofs.YtpkmfckifnomeaaDoor
open Go.RowKit

open Go.Lib (TabIs pow10Tab)
/-- The boxes of a request and an entry, and the blocks of what is handed back, the entry's already written. -/
structure RX (w W : World) (R E X : List Value) : Prop where
  r : W.rangeAt w.heap.size 0 R
  e : W.rangeAt (w.heap.size + 1) 0 E
  x : W.rangeAt (w.heap.size + 1 + 1 + 1) 0 X
  ta : W.there (w.heap.size + 1 + 1) 0 9
  tx : W.there (w.heap.size + 1 + 1 + 1) 0 5
  b : Below w.heap.size w W
theorem RX.lt {w W : World} {R E X : List Value} (h : RX w W R E X) : w.heap.size + 3 < W.heap.size := by
  obtain ⟨u, hu⟩ := Option.isSome_iff_exists.1 (h.tx 0 (by omega)).1
  exact World.block_lt_of_cell? _ _ hu
theorem RX.below {w W W' : World} {R E X : List Value} (h : RX w W R E X) (f : Below W.heap.size W W') : RX w W' R E X :=
  ⟨range_below h.r f, range_below h.e f, range_below h.x f, there_below h.ta f, there_below h.tx f, h.b.trans (f.mono (by have := h.lt; omega))⟩
theorem RX.drew {w W : World} {R E X : List Value} (h : RX w W R E X) : RX w W.drew R E X := ⟨h.r, h.e, h.x, h.ta, h.tx, h.b.drew⟩
theorem RX.new (w : World) (R E : List Value) : RX w ((((w.alloc (.cells R.toArray 27)).alloc (.cells E.toArray 49)).alloc (.cells zA.toArray 32)).alloc (.cells e0.cs.toArray 49)) R E e0.cs := by
  obtain ⟨h1, h2, h3, h4⟩ := r4 w R.toArray E.toArray zA.toArray e0.cs rfl rfl
  have r1 := range_new w R 27
  have r2 := range_new (w.alloc (.cells R.toArray 27)) E 49
  rw [World.size_alloc] at r2
  refine ⟨range_below (range_below (range_below r1 (below_alloc _ _)) (below_alloc _ _)) (below_alloc _ _), range_below (range_below r2 (below_alloc _ _)) (below_alloc _ _), h3, h1, h2, h4⟩
/-- The entry written anew. -/
theorem RX.set {w W : World} {R E X : List Value} (h : RX w W R E X) (Y : List Value) (hY : Y.length = 5) : RX w (W.setCells (w.heap.size + 1 + 1 + 1) 0 Y) R E Y :=
  ⟨range_other h.r (by omega) Y, range_other h.e (by omega) Y, World.rangeAt_setCells_same _ _ _ _ (by rw [hY]; exact h.tx), there_other h.ta Y, there_other h.tx Y, below_sets h.b (by omega) _ _⟩
/-- The answer written anew. -/
theorem RX.setA {w W : World} {R E X : List Value} (h : RX w W R E X) (A : List Value) (_ : A.length = 9) : RX w (W.setCells (w.heap.size + 1 + 1) 0 A) R E X :=
  ⟨range_other h.r (by omega) A, range_other h.e (by omega) A, range_other h.x (by omega) A, there_other h.ta A, there_other h.tx A, below_sets h.b (by omega) _ _⟩
theorem RX.cellR {w W : World} {R E X : List Value} (h : RX w W R E X) (j : Nat) (v : Value) (hv : R[j]? = some v) : W.cell? ⟨w.heap.size, j, none⟩ = some v := by have := h.r j v hv; rwa [Nat.zero_add] at this
theorem RX.cellE {w W : World} {R E X : List Value} (h : RX w W R E X) (j : Nat) (v : Value) (hv : E[j]? = some v) : W.cell? ⟨w.heap.size + 1, j, none⟩ = some v := by have := h.e j v hv; rwa [Nat.zero_add] at this
theorem range_set1 {w : World} {b n : Nat} {cs : List Value} (h : w.rangeAt b 0 cs) (ht : w.there b 0 n) (j : Nat) (hj : j < n) (v : Value) : (w.setCell ⟨b, j, none⟩ v).rangeAt b 0 (cs.set j v) := fun i u hu => by
  obtain ⟨y, hy⟩ := Option.isSome_iff_exists.1 (ht j hj).1
  rw [Nat.zero_add] at hy
  rw [Nat.zero_add]
  by_cases e : j = i
  · subst e
    by_cases hl : j < cs.length
    · rw [List.getElem?_set_self hl] at hu
      rw [World.cell?_setCell_same _ _ _ hy]; exact hu
    · have := (List.getElem?_eq_some_iff.1 hu).1
      rw [List.length_set] at this; exact absurd this hl
  · rw [List.getElem?_set_ne e] at hu
    have := h i u hu
    rw [Nat.zero_add] at this
    rw [World.cell?_setCell_other _ _ _ _ (fun h => e (by injection h))]; exact this
/-- One cell of the entry stored. -/
theorem RX.set1 {w W : World} {R E X : List Value} (h : RX w W R E X) (j : Nat) (hj : j < 5) (v : Value) : RX w (W.setCell ⟨w.heap.size + 1 + 1 + 1, j, none⟩ v) R E (X.set j v) :=
  ⟨range_setOther h.r (by omega) j v, range_setOther h.e (by omega) j v, range_set1 h.x h.tx j hj v, there_setCell h.ta _ _, there_setCell h.tx _ _, h.b.setCell (p := ⟨w.heap.size + 1 + 1 + 1, j, none⟩) (by show w.heap.size ≤ w.heap.size + 1 + 1 + 1; omega) v⟩
theorem RX.cellX {w W : World} {R E X : List Value} (h : RX w W R E X) (j : Nat) (v : Value) (hv : X[j]? = some v) : W.cell? ⟨w.heap.size + 1 + 1 + 1, j, none⟩ = some v := by have := h.x j v hv; rwa [Nat.zero_add] at this
theorem RX.frz {w W : World} {R E X : List Value} (h : RX w W R E X) (j : Nat) (hj : j < 5) : W.frozen? ⟨w.heap.size + 1 + 1 + 1, j, none⟩ = false := by have := (h.tx j hj).2; rwa [Nat.zero_add] at this
/-- Behind a region: its frame, and what is known of its world; no other end. -/
def JoinA (F : Act) (R : World → Prop) : Exit → Act → World → Prop
  | .normal, a', w' => a' = F ∧ R w'
  | _, _, _ => False
theorem wp_joinA {P : Program} {c : Code} {Q' : Exit → Act → World → Prop} {a : Act} {w : World} (F : Act) (R : World → Prop)
    (h : c.wp P (JoinA F R) a w) (hq : ∀ w', R w' → Q' Exit.normal F w') : c.wp P Q' a w :=
  wp_mono h (fun e _ w' h => by
    cases e <;> first | exact (h : False).elim | (obtain ⟨h2, h3⟩ := h; subst h2; exact hq w' h3))
end Go.Proofs.YtpkmfckifnomeaaDoor
