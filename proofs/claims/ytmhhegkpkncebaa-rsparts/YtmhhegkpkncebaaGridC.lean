/-
  MATRICES OF THE CALL'S OWN WHOSE ROWS MAY HAVE ROOM BEHIND THEM.
-/
import Derived.Test.YtmhhegkpkncebaaClear
import Derived.Test.YtmhhegkpkncebaaPick
namespace Go.Proofs.Ytmhhegkpkncebaa
open Go.RowKit

structure GridC (w : World) (B g : Nat) (P cp : Nat → Nat) (A : Nat → Nat → Nat) (m n : Nat) : Prop where
  gB : B ≤ g
  top : ∃ C, w.heap[g]? = some (.cells C 54 (0, 0)) ∧ m ≤ C.size ∧ ∀ i, i < m → C[i]? = some (.slice (some ⟨P i, 0, none⟩) n (cp i))
  row : ∀ i, i < m → B ≤ P i ∧ n ≤ cp i ∧ ∃ R, w.heap[P i]? = some (.cells R 5 (0, 0)) ∧ n ≤ R.size ∧ ∀ j, j < n → R[j]? = some (.int .u8 ((A i j : Nat) : Int))
  inj : ∀ i j, i < m → j < m → P i = P j → i = j

section
variable {w w' : World} {B g m n : Nat} {P cp : Nat → Nat} {A : Nat → Nat → Nat}
theorem GridC.up (h : GridC w B g P cp A m n) (hb : Below w.heap.size w w') : GridC w' B g P cp A m n := by
  obtain ⟨C, h1, h2⟩ := h.top
  refine ⟨h.gB, ⟨C, (hb.block g (Array.getElem?_eq_some_iff.1 h1).1).trans h1, h2⟩, fun i hi => ?_, h.inj⟩
  obtain ⟨h3, h3', R, h4, h5⟩ := h.row i hi
  exact ⟨h3, h3', R, (hb.block _ (Array.getElem?_eq_some_iff.1 h4).1).trans h4, h5⟩
theorem GridC.alike (h : GridC w B g P cp A m n) (e : Alike w w') : GridC w' B g P cp A m n := h.up (e.below _)
theorem GridC.congr {A' : Nat → Nat → Nat} (h : GridC w B g P cp A m n) (e : ∀ i, i < m → ∀ j, j < n → A i j = A' i j) : GridC w B g P cp A' m n := by
  refine ⟨h.gB, h.top, fun i hi => ?_, h.inj⟩
  obtain ⟨h3, h3', R, h4, h5, h6⟩ := h.row i hi
  exact ⟨h3, h3', R, h4, h5, fun j hj => by rw [← e i hi j hj]; exact h6 j hj⟩
theorem GridC.tcell {i : Nat} (h : GridC w B g P cp A m n) (hi : i < m) : w.cell? ⟨g, i, none⟩ = some (.slice (some ⟨P i, 0, none⟩) n (cp i)) := by
  obtain ⟨C, h1, _, h2⟩ := h.top
  rw [cell_of_row w g i C 54 (0, 0) h1]; exact h2 i hi
theorem GridC.tfz (h : GridC w B g P cp A m n) (i : Nat) : w.frozen? ⟨g, i, none⟩ = false := by
  obtain ⟨C, h1, _, _⟩ := h.top
  simp [World.frozen?, h1]
theorem GridC.cell {i j : Nat} (h : GridC w B g P cp A m n) (hi : i < m) (hj : j < n) : w.cell? ⟨P i, j, none⟩ = some (.int .u8 ((A i j : Nat) : Int)) := by
  obtain ⟨_, _, R, h1, _, h2⟩ := h.row i hi
  rw [cell_of_row w (P i) j R 5 (0, 0) h1]; exact h2 j hj
theorem GridC.fz {i : Nat} (h : GridC w B g P cp A m n) (hi : i < m) (j : Nat) : w.frozen? ⟨P i, j, none⟩ = false := by
  obtain ⟨_, _, R, h1, _⟩ := h.row i hi
  simp [World.frozen?, h1]
theorem GridC.gP {i : Nat} (h : GridC w B g P cp A m n) (hi : i < m) : P i ≠ g := by
  obtain ⟨C, h1, _⟩ := h.top
  obtain ⟨_, _, R, h2, _⟩ := h.row i hi
  intro e
  rw [e, h1] at h2
  injection h2 with h2; injection h2 with _ e2 _
  exact absurd e2 (by decide)
theorem GridC.rowF {i : Nat} (h : GridC w B g P cp A m n) (hi : i < m) : RowF w (some ⟨P i, 0, none⟩) (A i) n :=
  Or.inr ⟨P i, 0, rfl, fun j hj => by rw [Nat.zero_add]; exact h.cell hi hj⟩
theorem GridC.set {r c v : Nat} (h : GridC w B g P cp A m n) (hr : r < m) (hc : c < n) : GridC (w.setCell ⟨P r, c, none⟩ (.int .u8 ((v : Nat) : Int))) B g P cp (upd A r c v) m n := by
  obtain ⟨C, h1, h2⟩ := h.top
  refine ⟨h.gB, ⟨C, by rw [Below.heap_setCell _ _ _ _ (h.gP hr).symm]; exact h1, h2⟩, fun i hi => ?_, h.inj⟩
  obtain ⟨h3, h3', R, h4, h5, h6⟩ := h.row i hi
  refine ⟨h3, h3', ?_⟩
  by_cases e : i = r
  · subst e
    refine ⟨R.setIfInBounds c (.int .u8 (v : Int)), ?_, by simp [h5], fun j hj => ?_⟩
    · rw [setCell_eq_setRow w (P i) c R 5 (0, 0) _ h4]; exact setRow_heap w (P i) R _ 5 (0, 0) h4
    · unfold upd
      by_cases e2 : j = c
      · subst e2; rw [Array.getElem?_setIfInBounds_self_of_lt (by omega), if_pos ⟨rfl, rfl⟩]
      · rw [Array.getElem?_setIfInBounds_ne (by omega), if_neg (fun h => e2 h.2)]; exact h6 j hj
  · refine ⟨R, ?_, h5, fun j hj => ?_⟩
    · rw [Below.heap_setCell _ _ _ _ (fun e2 => e (h.inj i r hi hr e2))]; exact h4
    · unfold upd; rw [if_neg (fun h => e h.1)]; exact h6 j hj
theorem GridC.swap {p q : Nat} (h : GridC w B g P cp A m n) (hp : p < m) (hq : q < m) :
    GridC ((w.setCell ⟨g, p, none⟩ (.slice (some ⟨P q, 0, none⟩) n (cp q))).setCell ⟨g, q, none⟩ (.slice (some ⟨P p, 0, none⟩) n (cp p))) B g (swapP p q P) (swapP p q cp) (Gf.swapR p q A) m n := by
  obtain ⟨C, h1, h2, h3⟩ := h.top
  have e1 : (w.setCell ⟨g, p, none⟩ (.slice (some ⟨P q, 0, none⟩) n (cp q))).heap[g]? = some (.cells (C.setIfInBounds p (.slice (some ⟨P q, 0, none⟩) n (cp q))) 54 (0, 0)) := by
    rw [setCell_eq_setRow w g p C 54 (0, 0) _ h1]; exact setRow_heap w g C _ 54 (0, 0) h1
  refine ⟨h.gB, ⟨(C.setIfInBounds p (.slice (some ⟨P q, 0, none⟩) n (cp q))).setIfInBounds q (.slice (some ⟨P p, 0, none⟩) n (cp p)), ?_, by simp [h2], fun i hi => ?_⟩, fun i hi => ?_, fun i j hi hj e => ?_⟩
  · rw [setCell_eq_setRow _ g q _ 54 (0, 0) _ e1]; exact setRow_heap _ g _ _ 54 (0, 0) e1
  · unfold swapP
    by_cases ei : i = p
    · by_cases eq : i = q
      · subst ei eq; rw [if_pos rfl, if_pos rfl, Array.getElem?_setIfInBounds_self_of_lt (by simp; omega)]
      · rw [if_pos ei, if_pos ei, Array.getElem?_setIfInBounds_ne (by omega), ei, Array.getElem?_setIfInBounds_self_of_lt (by omega)]
    · by_cases eq : i = q
      · rw [if_neg ei, if_pos eq, if_neg ei, if_pos eq, eq, Array.getElem?_setIfInBounds_self_of_lt (by simp; omega)]
      · rw [if_neg ei, if_neg eq, if_neg ei, if_neg eq, Array.getElem?_setIfInBounds_ne (by omega), Array.getElem?_setIfInBounds_ne (by omega)]; exact h3 i hi
  · have key : ∀ s, s < m → B ≤ P s ∧ n ≤ cp s ∧ ∃ R, ((w.setCell ⟨g, p, none⟩ (.slice (some ⟨P q, 0, none⟩) n (cp q))).setCell ⟨g, q, none⟩ (.slice (some ⟨P p, 0, none⟩) n (cp p))).heap[P s]? = some (.cells R 5 (0, 0)) ∧ n ≤ R.size ∧ ∀ j, j < n → R[j]? = some (.int .u8 ((A s j : Nat) : Int)) := fun s hs => by
      obtain ⟨h5, h5', R, h6, h7⟩ := h.row s hs
      exact ⟨h5, h5', R, by rw [Below.heap_setCell _ _ _ _ (h.gP hs), Below.heap_setCell _ _ _ _ (h.gP hs)]; exact h6, h7⟩
    unfold swapP Gf.swapR
    by_cases ei : i = p
    · simp only [if_pos ei]; exact key q hq
    · by_cases eq : i = q
      · simp only [if_neg ei, if_pos eq]; exact key p hp
      · simp only [if_neg ei, if_neg eq]; exact key i hi
  · unfold swapP at e
    have hpq := h.inj p q hp hq
    have hip := h.inj i p hi hp
    have hiq := h.inj i q hi hq
    have hjp := h.inj j p hj hp
    have hjq := h.inj j q hj hq
    have hij := h.inj i j hi hj
    by_cases a1 : i = p
    · by_cases b1 : j = p
      · omega
      · by_cases b2 : j = q
        · rw [if_pos a1, if_neg b1, if_pos b2] at e; have := hpq e.symm; omega
        · rw [if_pos a1, if_neg b1, if_neg b2] at e; have := hjq e.symm; omega
    · by_cases a2 : i = q
      · by_cases b1 : j = p
        · rw [if_neg a1, if_pos a2, if_pos b1] at e; have := hpq e; omega
        · by_cases b2 : j = q
          · omega
          · rw [if_neg a1, if_pos a2, if_neg b1, if_neg b2] at e; have := hjp e.symm; omega
      · by_cases b1 : j = p
        · rw [if_neg a1, if_neg a2, if_pos b1] at e; have := hiq e; omega
        · by_cases b2 : j = q
          · rw [if_neg a1, if_neg a2, if_neg b1, if_pos b2] at e; have := hip e; omega
          · rw [if_neg a1, if_neg a2, if_neg b1, if_neg b2] at e; exact hij e
end

/-- The first k rows of a list that is being gathered. -/
structure RowsC (w : World) (B : Nat) (xs : List Value) (P cp : Nat → Nat) (A : Nat → Nat → Nat) (n k : Nat) : Prop where
  at_ : ∀ i, i < k → xs[i]? = some (.slice (some ⟨P i, 0, none⟩) n (cp i))
  row : ∀ i, i < k → B ≤ P i ∧ n ≤ cp i ∧ ∃ R, w.heap[P i]? = some (.cells R 5 (0, 0)) ∧ n ≤ R.size ∧ ∀ j, j < n → R[j]? = some (.int .u8 ((A i j : Nat) : Int))
  inj : ∀ i j, i < k → j < k → P i = P j → i = j
theorem RowsC.nil (w : World) (B : Nat) (P cp : Nat → Nat) (A : Nat → Nat → Nat) (n : Nat) : RowsC w B [] P cp A n 0 := ⟨fun i hi => by omega, fun i hi => by omega, fun i j hi => by omega⟩
theorem RowsC.up {w w' : World} {B n k : Nat} {xs : List Value} {P cp : Nat → Nat} {A : Nat → Nat → Nat} (h : RowsC w B xs P cp A n k) (hb : Below w.heap.size w w') : RowsC w' B xs P cp A n k := by
  refine ⟨h.at_, fun i hi => ?_, h.inj⟩
  obtain ⟨h3, h3', R, h4, h5⟩ := h.row i hi
  exact ⟨h3, h3', R, (hb.block _ (Array.getElem?_eq_some_iff.1 h4).1).trans h4, h5⟩
theorem RowsC.grid {w : World} {B n k : Nat} {xs : List Value} {P cp : Nat → Nat} {A : Nat → Nat → Nat} {v : Value} (h : RowsC w B xs P cp A n k) (hown : w.ownsRow B 54 1 v k xs) (hk : 1 ≤ k) : ∃ g c, v = .slice (some ⟨g, 0, none⟩) k c ∧ GridC w B g P cp A k n := by
  rcases hown.2 with ⟨_, h0⟩ | ⟨g, cap, cur, rfl, hB, hh, hcap, _, hcs, ht⟩
  · exfalso; omega
  · refine ⟨g, cap, rfl, hB, ⟨cur, hh, by omega, fun i hi => ?_⟩, h.row, h.inj⟩
    rw [← h.at_ i hi, ← ht, List.getElem?_take_of_lt (by omega)]; simp
/-- One row more: the list grows, the row's own block stays. -/
theorem RowsC.push {w w1 : World} {B n k q cq : Nat} {o : Obj} {xs : List Value} {P cp : Nat → Nat} {A : Nat → Nat → Nat} {v : Value} {R : Array Value} (h : RowsC w B xs P cp A n k) (hown : w.ownsRow B 54 1 v k xs) (hgrow : (w.alloc o).grownBy w1 v.ownBlock)
    (hq : w.heap[q]? = some (.cells R 5 (0, 0))) (hBq : B ≤ q) (hcq : n ≤ cq) (hRn : n ≤ R.size) (hR : ∀ j, j < n → R[j]? = some (.int .u8 ((A k j : Nat) : Int))) (hne : ∀ i, i < k → P i ≠ q) :
    RowsC w1 B (xs ++ [.slice (some ⟨q, 0, none⟩) n cq]) (fun i => if i = k then q else P i) (fun i => if i = k then cq else cp i) A n (k + 1) := by
  have hlen : xs.length = k := by have := hown.1; omega
  refine ⟨fun i hi => ?_, fun i hi => ?_, fun i j hi hj e => ?_⟩
  · by_cases e : i = k
    · simp only [if_pos e]; rw [List.getElem?_append_right (by omega), hlen, e, Nat.sub_self]; rfl
    · simp only [if_neg e]; rw [List.getElem?_append_left (by omega)]; exact h.at_ i (by omega)
  · by_cases e : i = k
    · simp only [if_pos e]; subst e; exact ⟨hBq, hcq, R, keeps5 hown hgrow hq, hRn, hR⟩
    · simp only [if_neg e]
      obtain ⟨h3, h3', R', h4, h5⟩ := h.row i (by omega)
      exact ⟨h3, h3', R', keeps5 hown hgrow h4, h5⟩
  · by_cases e1 : i = k
    · by_cases e2 : j = k
      · omega
      · simp only [if_pos e1, if_neg e2] at e; exact absurd e.symm (hne j (by omega))
    · by_cases e2 : j = k
      · simp only [if_neg e1, if_pos e2] at e; exact absurd e (hne i (by omega))
      · simp only [if_neg e1, if_neg e2] at e; exact h.inj i j (by omega) (by omega) e
end Go.Proofs.Ytmhhegkpkncebaa
