/-
  A REQUEST BEHIND A POINTER; what args of the reference leaves.
-/
import Derived.Test.YtedbklipbfbmoaaDoorRWords
import Derived.Test.YtedbklipbfbmoaaDoorRVerb
import Derived.Test.YtedbklipbfbmoaaDoorLine
namespace Go.Proofs.YtedbklipbfbmoaaDoor
open Go.RowKit

structure IsR (w : World) (R : Nat) (cs : List Value) : Prop where
  ra : w.rangeAt R 0 cs
  fz : ∀ j, w.frozen? ⟨R, j, none⟩ = false
  lt : R < w.heap.size
theorem IsR.set {w : World} {R : Nat} {cs : List Value} (h : IsR w R cs) (i : Nat) (u : Value) (hi : i < cs.length) : IsR (w.setCell ⟨R, i, none⟩ u) R (cs.set i u) :=
  ⟨range_set h.ra hi, fun j => by rw [World.frozen?_setCell]; exact h.fz j, by simpa [World.setCell] using h.lt⟩
theorem IsR.up {w w' : World} {R : Nat} {cs : List Value} (h : IsR w R cs) (b : Below w.heap.size w w') : IsR w' R cs :=
  ⟨fun j v hv => cell_up b (h.ra j v hv), fun j => (World.frozen?_of_block (a := ⟨R, j, none⟩) (b.block R h.lt)).trans (h.fz j), Nat.lt_of_lt_of_le h.lt b.size⟩
theorem IsR.at_ {w : World} {R : Nat} {cs : List Value} (h : IsR w R cs) (i : Nat) {v : Value} (hv : cs[i]? = some v) : w.cell? ⟨R, i, none⟩ = some v := by
  have := h.ra i v hv
  rwa [Nat.zero_add] at this
/-- Of what was there R alone has turned. -/
structure But (R : Nat) (w w' : World) : Prop where
  lo : Below R w w'
  cell : ∀ b off v, b ≠ R → w.cell? ⟨b, off, none⟩ = some v → w'.cell? ⟨b, off, none⟩ = some v
theorem But.refl (R : Nat) (w : World) : But R w w := ⟨Below.refl _ _, fun _ _ _ _ h => h⟩
theorem But.trans {R : Nat} {w1 w2 w3 : World} (h : But R w1 w2) (k : But R w2 w3) : But R w1 w3 := ⟨h.lo.trans k.lo, fun b off v hb hc => k.cell b off v hb (h.cell b off v hb hc)⟩
theorem But.set (R i : Nat) (u : Value) (w : World) : But R w (w.setCell ⟨R, i, none⟩ u) := by
  have f2 : Fr (fun t => t = (9, 9)) (lab (fun _ => (0, 0)) R (9, 9)) (lab (fun _ => (0, 0)) R (9, 9)) w (w.setCell ⟨R, i, none⟩ u) := Fr.set (T := fun t => t = (9, 9)) (a := ⟨R, i, none⟩) (show lab (fun _ => (0, 0)) R (9, 9) R = (9, 9) from lab_same _ _ _) _
  refine ⟨⟨f2.os, f2.tape, f2.output, f2.size, fun b hb => ?_⟩, fun b off v hb hc => f2.cell hc (fun e => by rw [lab_other _ _ _ hb] at e; cases e)⟩
  exact Below.heap_setCell _ _ _ _ (by show b ≠ R; omega)
theorem But.new (R : Nat) {w w' : World} (hR : R ≤ w.heap.size) (b : Below w.heap.size w w') : But R w w' := ⟨b.mono hR, fun _ _ _ _ hc => cell_up b hc⟩
/-- What args leaves where it says yes. -/
def Got (N R : Nat) (w' : World) (ro : Option Rq) (v : Nat) (q : Bool) : Prop := ∀ r, ro = some r → ∃ a n c, w'.rangeAt R 0 (({ r with verb := v, quiet := q } : Rq).cs (.slice a n c)) ∧ Strs w' (.slice a n c) r.keys ∧ ∀ A, a = some A → N ≤ A.block
theorem Got.none (N R : Nat) (w' : World) (v : Nat) (q : Bool) : Got N R w' Option.none v q := fun r h => by cases h
theorem one_strs {w : World} {x : B} {g : Nat} (h : w.cell? ⟨g, 0, none⟩ = some (.string (S x))) : Strs w (.slice (some ⟨g, 0, none⟩) 1 1) [x] :=
  ⟨_, _, rfl, Nat.le_refl _, fun _ => ⟨g, 0, rfl, fun i y hy => by
    rcases i with _ | i
    · simp at hy; subst hy; exact h
    · simp at hy⟩⟩
end Go.Proofs.YtedbklipbfbmoaaDoor
