/-
  A FRAME in a block of its own.
-/
import Derived.Test.YtcdkpflhpeflcaaGet
namespace Go.Proofs.Ytcdkpflhpeflcaa
open Go.RowKit

/-- A frame on its way: its first j fields are there. -/
def part (f : F) (j : Nat) : F := ⟨if 0 < j then f.kind else 0, if 1 < j then f.slot else 0, if 2 < j then f.inc else 0, if 3 < j then f.rid else 0, if 4 < j then f.floor else 0, if 5 < j then f.role else 0, if 6 < j then f.key else ⟨#[]⟩, if 7 < j then f.ver else 0, if 8 < j then f.data else ⟨#[]⟩⟩
theorem part_9 (f : F) : part f 9 = f := rfl
theorem part_0 (f : F) : part f 0 = Z := rfl
/-- The frame g lies in block G. -/
structure FrmAt (w : World) (G : Nat) (g : F) : Prop where
  cells : ∀ i u, g.cs[i]? = some u → w.cell? ⟨G, i, none⟩ = some u
  fz : ∀ i, w.frozen? ⟨G, i, none⟩ = false
theorem cs_kind {g : F} {i : Nat} {u : Value} (h : g.cs[i]? = some u) (x : Int) : u ≠ .int .u8 x := by
  obtain ⟨g0, g1, g2, g3, g4, g5, g6, g7, g8⟩ := g
  rcases i with _ | _ | _ | _ | _ | _ | _ | _ | _ | i <;> simp [F.cs] at h <;> (rw [← h]; intro e; cases e)
theorem FrmAt.up {w w' : World} {G : Nat} {g : F} (h : FrmAt w G g) (hb : Below w.heap.size w w') : FrmAt w' G g :=
  have hG : G < w.heap.size := World.block_lt_of_cell? _ _ (h.cells 0 _ rfl)
  ⟨fun i u hu => cell_up hb (h.cells i u hu), fun i => (World.frozen?_of_block (a := ⟨G, i, none⟩) (hb.block G hG)).trans (h.fz i)⟩
theorem FrmAt.turn {w w' : World} {R G : Nat} {g : F} (h : FrmAt w G g) (ht : Turn R w w') (hG : G ≠ R) : FrmAt w' G g :=
  ⟨fun i u hu => (ht.cell hG).trans (h.cells i u hu), fun i => (ht.fz hG).trans (h.fz i)⟩
theorem FrmAt.put {w : World} {G j : Nat} {g g' : F} {v : Value} (h : FrmAt w G g) (hj : g'.cs[j]? = some v) (ho : ∀ i, i ≠ j → g'.cs[i]? = g.cs[i]?) : FrmAt (w.setCell ⟨G, j, none⟩ v) G g' := by
  refine ⟨fun i u hu => ?_, fun i => by rw [World.frozen?_setCell]; exact h.fz i⟩
  by_cases e : i = j
  · subst e
    rw [hj] at hu
    obtain ⟨u0, h0⟩ : ∃ u0, g.cs[i]? = some u0 := ⟨_, List.getElem?_eq_getElem (by
      have := (List.getElem?_eq_some_iff.1 hj).1
      have e1 : g.cs.length = 9 := rfl
      have e2 : g'.cs.length = 9 := rfl
      omega)⟩
    rw [World.cell?_setCell_same _ _ _ (h.cells i u0 h0)]
    exact hu
  · rw [ho i e] at hu
    rw [World.cell?_setCell_other _ _ _ _ (fun x => by injection x with _ x _; exact e x.symm)]
    exact h.cells i u hu
theorem FrmAt.new (w : World) (g : F) (cs : Array Value) (h : cs = g.cs.toArray) : FrmAt (w.alloc (.cells cs 25)) w.heap.size g := by
  subst h
  exact ⟨fun i u hu => by rw [World.cell?_alloc_new, List.getElem?_toArray]; exact hu, fun i => World.frozen?_alloc_new _ _ _ _⟩
end Go.Proofs.Ytcdkpflhpeflcaa
