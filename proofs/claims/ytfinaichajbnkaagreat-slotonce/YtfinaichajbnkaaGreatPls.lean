/-
  A LAW's OWN FRAME in a box: its fields written.
-/
import Derived.Test.YtfinaichajbnkaaGreatPla
namespace Go.Proofs.YtfinaichajbnkaaGreat
open Go.RowKit
open Wi (F)

/-- A cell of a box of the law's own is written. -/
theorem Lw.set {w0 W : World} {o : Nat → Nat × Nat} {X : Nat} {s : Sl} (h : Lw w0 W o X s) {B : Nat} (hB : o B = (8, 1)) (hb : w0.heap.size ≤ B) (j : Nat) (v : Value) : Lw w0 (W.setCell ⟨B, j, none⟩ v) o X s :=
  ⟨h.I.fr (Fr.set (T := (· = (8, 1))) (a := ⟨B, j, none⟩) hB v) nTP8, h.G.setNew (a := ⟨B, j, none⟩) hb v⟩
theorem Lw.ge {w0 W : World} {o : Nat → Nat × Nat} {X : Nat} {s : Sl} (h : Lw w0 W o X s) : w0.heap.size ≤ W.heap.size := h.fin.size
theorem KC.set1 {W : World} {o : Nat → Nat × Nat} {A : Nat} {a : F} (h : KC W o A a) (x : Int) : KC (W.setCell ⟨A, 1, none⟩ (.int .i64 x)) o A { a with slot := x } :=
  h.set 1 (.int .i64 x) _ (fun i u e => by
    obtain ⟨a0, a1, a2, a3, a4, a5, a6, a7, a8⟩ := a
    rcases i with _ | _ | _ | _ | _ | _ | _ | _ | _ | i <;> first | exact e | (simp [Wi.F.cs] at e ⊢; try exact e)) (by omega)
theorem KC.set2 {W : World} {o : Nat → Nat × Nat} {A : Nat} {a : F} (h : KC W o A a) (x : Int) : KC (W.setCell ⟨A, 2, none⟩ (.int .i64 x)) o A { a with inc := x } :=
  h.set 2 (.int .i64 x) _ (fun i u e => by
    obtain ⟨a0, a1, a2, a3, a4, a5, a6, a7, a8⟩ := a
    rcases i with _ | _ | _ | _ | _ | _ | _ | _ | _ | i <;> first | exact e | (simp [Wi.F.cs] at e ⊢; try exact e)) (by omega)
theorem KC.set3 {W : World} {o : Nat → Nat × Nat} {A : Nat} {a : F} (h : KC W o A a) (x : Int) : KC (W.setCell ⟨A, 3, none⟩ (.int .i64 x)) o A { a with rid := x } :=
  h.set 3 (.int .i64 x) _ (fun i u e => by
    obtain ⟨a0, a1, a2, a3, a4, a5, a6, a7, a8⟩ := a
    rcases i with _ | _ | _ | _ | _ | _ | _ | _ | _ | i <;> first | exact e | (simp [Wi.F.cs] at e ⊢; try exact e)) (by omega)
theorem KC.set4 {W : World} {o : Nat → Nat × Nat} {A : Nat} {a : F} (h : KC W o A a) (x : Int) : KC (W.setCell ⟨A, 4, none⟩ (.int .i64 x)) o A { a with floor := x } :=
  h.set 4 (.int .i64 x) _ (fun i u e => by
    obtain ⟨a0, a1, a2, a3, a4, a5, a6, a7, a8⟩ := a
    rcases i with _ | _ | _ | _ | _ | _ | _ | _ | _ | i <;> first | exact e | (simp [Wi.F.cs] at e ⊢; try exact e)) (by omega)
end Go.Proofs.YtfinaichajbnkaaGreat
