/-
  PROGRAM AND REFERENCE in one form; calls that came in.
-/
import Derived.Test.YtgbjohipijpimaaRef
import Derived.Test.YtgbjohipijpimaaRuns
namespace Go.Proofs.Ytgbjohipijpimaa
open Go.RowKit

/-- Is a frame at the place? -/
def isin (l : List F) (k : Int) : Bool := decide (0 ≤ k ∧ k < (l.length : Int))
/-- The frame at the place. -/
def fr (l : List F) (k : Int) : F := if isin l k then (l[k.toNat]?).getD Z else Z
/-- Those that are left. -/
def cutl (l : List F) (k : Int) : List F := if isin l k then out l k.toNat else l
theorem cutl_length (l : List F) (k : Int) : (cutl l k).length ≤ l.length := by
  unfold cutl
  split
  · rename_i h
    have := of_decide_eq_true h
    rw [out_length (by omega)]; omega
  · exact Nat.le_refl _
theorem isin_ways (l : List F) (k : Int) : (∃ (j : Nat) (f : F), k = (j : Int) ∧ l[j]? = some f ∧ fr l k = f ∧ isin l k = true ∧ cutl l k = out l j) ∨ ((k < 0 ∨ (l.length : Int) ≤ k) ∧ fr l k = Z ∧ isin l k = false ∧ cutl l k = l) := by
  by_cases h : 0 ≤ k ∧ k < (l.length : Int)
  · left
    have hi : isin l k = true := decide_eq_true h
    have hg := List.getElem?_eq_getElem (l := l) (i := k.toNat) (by omega)
    refine ⟨k.toNat, l[k.toNat]'(by omega), by omega, hg, ?_, hi, ?_⟩
    · unfold fr; rw [if_pos hi, hg]; rfl
    · unfold cutl; rw [if_pos hi]
  · right
    have hi : isin l k = false := decide_eq_false h
    refine ⟨by omega, ?_, hi, ?_⟩
    · unfold fr; rw [hi]; rfl
    · unfold cutl; rw [hi]; rfl
theorem copy_any {o : Nat → Nat × Nat} {x b : Nat} {l : List F} (k : Int) (f : F) (c : Bool) (hf : f = fr l k) (hc : c = isin l k) (w : World) (h : IsNet w o x b l) :
    Calls Try.prog 11 #[.pointer (some ⟨b, 0, none⟩), .int .i64 k] w fun e w' => e = .returned (.tuple #[f.v, .bool c]) ∧ Fr (fun _ => False) o o w w' := by
  subst hf hc
  rcases isin_ways l k with ⟨j, f, rfl, h1, h2, h3, _⟩ | ⟨h1, h2, h3, _⟩
  · rw [h2, h3]; exact copy_yes j f h1 w h
  · rw [h2, h3]; exact copy_no k h1 w h
theorem deliver_any {o : Nat → Nat × Nat} {x b : Nat} {l : List F} (k : Int) (f : F) (c : Bool) (hf : f = fr l k) (hc : c = isin l k) (hl : l.length ≤ 100000) (hx : x ≠ 0) (w : World) (h : IsNet w o x b l) :
    Calls Try.prog 10 #[.pointer (some ⟨b, 0, none⟩), .int .i64 k] w fun e w' => e = .returned (.tuple #[f.v, .bool c]) ∧ ∃ o', IsNet w' o' x b (cutl l k) ∧ Fr (·.1 = x) o o' w w' := by
  subst hf hc
  rcases isin_ways l k with ⟨j, f, rfl, h1, h2, h3, h4⟩ | ⟨h1, h2, h3, h4⟩
  · rw [h2, h3, h4]; exact deliver_yes j f h1 hl hx w h
  · rw [h2, h3, h4]
    refine (deliver_no k h1 w h).mono ?_
    rintro e w' ⟨he, F'⟩
    exact ⟨he, o, h.fr F' id id, F'.mono (fun _ h => h.elim)⟩
theorem drop_any {o : Nat → Nat × Nat} {x b : Nat} {l : List F} (k : Int) (c : Bool) (hc : c = isin l k) (hl : l.length ≤ 100000) (w : World) (h : IsNet w o x b l) :
    Calls Try.prog 12 #[.pointer (some ⟨b, 0, none⟩), .int .i64 k] w fun e w' => e = .returned (.bool c) ∧ IsNet w' o x b (cutl l k) ∧ Fr (·.1 = x) o o w w' := by
  subst hc
  rcases isin_ways l k with ⟨j, f, rfl, h1, h2, h3, h4⟩ | ⟨h1, h2, h3, h4⟩
  · rw [h3, h4]; exact drop_yes j (List.getElem?_eq_some_iff.1 h1).1 hl w h
  · rw [h3, h4]
    refine (drop_no k h1 w h).mono ?_
    rintro e w' ⟨he, rfl⟩
    exact ⟨he, h, Fr.refl _ _ _⟩
theorem rpick_any {o : Nat → Nat × Nat} {x b : Nat} {l : List F} (k : Int) (keep : Bool) (f : F) (c : Bool) (hf : f = fr l k) (hc : c = isin l k) (hl : l.length ≤ 100000) (hx : x ≠ 0) (w : World) (h : IsNet w o x b l) :
    Calls Try.prog 17 #[.pointer (some ⟨b, 0, none⟩), .int .i64 k, .bool keep] w fun e w' => e = .returned (.tuple #[f.v, .bool c]) ∧ ∃ o', IsNet w' o' x b (if keep then l else cutl l k) ∧ Fr (·.1 = x) o o' w w' := by
  subst hf hc
  rcases isin_ways l k with ⟨j, f, rfl, h1, h2, h3, h4⟩ | ⟨h1, h2, h3, h4⟩
  · rw [h2, h3, h4]
    cases keep with
    | true =>
      refine (rpick_keep j f h1 w h).mono ?_
      rintro e w' ⟨he, F'⟩
      exact ⟨he, o, h.fr F' id id, F'.mono (fun _ h => h.elim)⟩
    | false => exact rpick_out j f h1 hl hx w h
  · rw [h2, h3, h4, ite_self]
    refine (rpick_no k keep h1 w h).mono ?_
    rintro e w' ⟨he, F'⟩
    exact ⟨he, o, h.fr F' id id, F'.mono (fun _ h => h.elim)⟩
/-- n calls lie at a. -/
def AskF (w : World) (a : Option Addr) (q : Nat → Int × Int × F) (n : Nat) : Prop := n = 0 ∨ ∃ p off, a = some ⟨p, off, none⟩ ∧ ∀ i, i < n → w.cell? ⟨p, off + i * 11, none⟩ = some (.int .i64 (q i).1) ∧ w.cell? ⟨p, off + i * 11 + 1, none⟩ = some (.int .i64 (q i).2.1) ∧ FrmAt w p (off + i * 11 + 2) (q i).2.2
/-- A call in a block of its own. -/
def askc (k n : Int) (f : F) : List Value := .int .i64 k :: .int .i64 n :: f.cs
structure AskV (w : World) (o : Nat → Nat × Nat) (A : Nat) (k n : Int) (f : F) : Prop where
  blk : w.heap[A]? = some (.cells (askc k n f).toArray 41)
  ob : o A = (8, 0)
theorem AskV.fr {T : Nat × Nat → Prop} {w w' : World} {o o' : Nat → Nat × Nat} {A : Nat} {k n : Int} {f : F} (h : AskV w o A k n f) (x : Fr T o o' w w') (ht : ¬ T (8, 0)) : AskV w' o' A k n f :=
  ⟨(x.block A (lt_of_get h.blk) (by rw [h.ob]; exact ht)).trans h.blk, (x.lab A (lt_of_get h.blk)).trans h.ob⟩
theorem AskV.cell {w : World} {o : Nat → Nat × Nat} {A : Nat} {k n : Int} {f : F} (h : AskV w o A k n f) {j : Nat} {u : Value} (hu : (askc k n f)[j]? = some u) : w.cell? ⟨A, j, none⟩ = some u := by
  unfold World.cell?; rw [h.blk]; simpa using hu
theorem AskV.cells {w : World} {o : Nat → Nat × Nat} {A : Nat} {k n : Int} {f : F} (h : AskV w o A k n f) : w.cell? ⟨A, 0, none⟩ = some (.int .i64 k) ∧ w.cell? ⟨A, 1, none⟩ = some (.int .i64 n) ∧ w.cell? ⟨A, 2, none⟩ = some (.int .i64 f.kind) ∧ w.cell? ⟨A, 3, none⟩ = some (.int .i64 f.slot) ∧ w.cell? ⟨A, 4, none⟩ = some (.int .i64 f.inc) ∧ w.cell? ⟨A, 5, none⟩ = some (.int .i64 f.rid) ∧ w.cell? ⟨A, 6, none⟩ = some (.int .i64 f.floor) ∧ w.cell? ⟨A, 7, none⟩ = some (.int .i64 f.role) ∧ w.cell? ⟨A, 8, none⟩ = some (.string f.key) ∧ w.cell? ⟨A, 9, none⟩ = some (.int .i64 f.ver) ∧ w.cell? ⟨A, 10, none⟩ = some (.string f.data) :=
  ⟨h.cell rfl, h.cell rfl, h.cell rfl, h.cell rfl, h.cell rfl, h.cell rfl, h.cell rfl, h.cell rfl, h.cell rfl, h.cell rfl, h.cell rfl⟩
/-- Cells that may be written. -/
def Free (w : World) (g n : Nat) : Prop := ∀ j, j < n → (w.cell? ⟨g, j, none⟩).isSome = true ∧ w.frozen? ⟨g, j, none⟩ = false
theorem Free.set {w : World} {g n : Nat} (h : Free w g n) (a : Addr) (v : Value) : Free (w.setCell a v) g n := fun j hj => ⟨some_setCell _ _ _ _ (h j hj).1, by rw [World.frozen?_setCell]; exact (h j hj).2⟩
theorem Free.below {w w' : World} {g n : Nat} (hg : g < w.heap.size) (h : Free w g n) (hb : Below w.heap.size w w') : Free w' g n := fun j hj => by
  rw [World.cell?_of_block (a := ⟨g, j, none⟩) (hb.block g hg), World.frozen?_of_block (a := ⟨g, j, none⟩) (hb.block g hg)]; exact h j hj
end Go.Proofs.Ytgbjohipijpimaa
