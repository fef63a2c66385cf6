/-
  MATRICES OF THE CALL'S OWN: a list of rows, each row in a block of its own, none shared; what stores do to them; 'zeros' of the program.
-/
import Derived.Test.YtmhhegkpkncebaaSquare
import Derived.Test.YtmhhegkpkncebaaLin
namespace Go.Proofs.Ytmhhegkpkncebaa
open Go.RowKit

/-- A list of m rows lies in block g; of the first k: row i is block P i, n bytes, A i's numbers; all from block B on; no two are one. -/
structure Grid (w : World) (B g : Nat) (P : Nat → Nat) (A : Nat → Nat → Nat) (m n k : Nat) : Prop where
  gB : B ≤ g
  top : ∃ C, w.heap[g]? = some (.cells C 54 (0, 0)) ∧ C.size = m ∧ ∀ i, i < k → C[i]? = some (.slice (some ⟨P i, 0, none⟩) n n)
  row : ∀ i, i < k → B ≤ P i ∧ ∃ R, w.heap[P i]? = some (.cells R 5 (0, 0)) ∧ R.size = n ∧ ∀ j, j < n → R[j]? = some (.int .u8 ((A i j : Nat) : Int))
  inj : ∀ i j, i < k → j < k → P i = P j → i = j

theorem Grid.up {w w' : World} {B g m n k : Nat} {P : Nat → Nat} {A : Nat → Nat → Nat} (h : Grid w B g P A m n k) (hb : Below w.heap.size w w') : Grid w' B g P A m n k := by
  obtain ⟨C, h1, h2⟩ := h.top
  refine ⟨h.gB, ⟨C, (hb.block g (Array.getElem?_eq_some_iff.1 h1).1).trans h1, h2⟩, fun i hi => ?_, h.inj⟩
  obtain ⟨h3, R, h4, h5⟩ := h.row i hi
  exact ⟨h3, R, (hb.block _ (Array.getElem?_eq_some_iff.1 h4).1).trans h4, h5⟩
theorem Grid.drewN {w : World} {B g m n k : Nat} {P : Nat → Nat} {A : Nat → Nat → Nat} (h : Grid w B g P A m n k) (d : Nat) : Grid (w.drewN d) B g P A m n k := h.up (below_drewN (Below.refl _ _) d)
theorem Grid.mono {w : World} {B B' g m n k : Nat} {P : Nat → Nat} {A : Nat → Nat → Nat} (h : Grid w B g P A m n k) (hB : B' ≤ B) : Grid w B' g P A m n k :=
  ⟨Nat.le_trans hB h.gB, h.top, fun i hi => ⟨Nat.le_trans hB (h.row i hi).1, (h.row i hi).2⟩, h.inj⟩
theorem Grid.congr {w : World} {B g m n k : Nat} {P : Nat → Nat} {A A' : Nat → Nat → Nat} (h : Grid w B g P A m n k) (e : ∀ i, i < k → ∀ j, j < n → A i j = A' i j) : Grid w B g P A' m n k := by
  refine ⟨h.gB, h.top, fun i hi => ?_, h.inj⟩
  obtain ⟨h3, R, h4, h5, h6⟩ := h.row i hi
  exact ⟨h3, R, h4, h5, fun j hj => by rw [← e i hi j hj]; exact h6 j hj⟩
theorem Grid.tcell {w : World} {B g m n k i : Nat} {P : Nat → Nat} {A : Nat → Nat → Nat} (h : Grid w B g P A m n k) (hi : i < k) : w.cell? ⟨g, i, none⟩ = some (.slice (some ⟨P i, 0, none⟩) n n) := by
  obtain ⟨C, h1, _, h2⟩ := h.top
  rw [cell_of_row w g i C 54 (0, 0) h1]; exact h2 i hi
theorem Grid.tfz {w : World} {B g m n k : Nat} {P : Nat → Nat} {A : Nat → Nat → Nat} (h : Grid w B g P A m n k) (i : Nat) : w.frozen? ⟨g, i, none⟩ = false := by
  obtain ⟨C, h1, _, _⟩ := h.top
  simp [World.frozen?, h1]
theorem Grid.cell {w : World} {B g m n k i j : Nat} {P : Nat → Nat} {A : Nat → Nat → Nat} (h : Grid w B g P A m n k) (hi : i < k) (hj : j < n) : w.cell? ⟨P i, j, none⟩ = some (.int .u8 ((A i j : Nat) : Int)) := by
  obtain ⟨_, R, h1, _, h2⟩ := h.row i hi
  rw [cell_of_row w (P i) j R 5 (0, 0) h1]; exact h2 j hj
theorem Grid.fz {w : World} {B g m n k i : Nat} {P : Nat → Nat} {A : Nat → Nat → Nat} (h : Grid w B g P A m n k) (hi : i < k) (j : Nat) : w.frozen? ⟨P i, j, none⟩ = false := by
  obtain ⟨_, R, h1, _⟩ := h.row i hi
  simp [World.frozen?, h1]
theorem Grid.gP {w : World} {B g m n k i : Nat} {P : Nat → Nat} {A : Nat → Nat → Nat} (h : Grid w B g P A m n k) (hi : i < k) : P i ≠ g := by
  obtain ⟨C, h1, _⟩ := h.top
  obtain ⟨_, R, h2, _⟩ := h.row i hi
  intro e
  rw [e, h1] at h2
  injection h2 with h2; injection h2 with _ e2 _
  exact absurd e2 (by decide)
theorem Grid.lt {w : World} {B g m n k i : Nat} {P : Nat → Nat} {A : Nat → Nat → Nat} (h : Grid w B g P A m n k) (hi : i < k) : P i < w.heap.size := by
  obtain ⟨_, R, h2, _⟩ := h.row i hi
  exact (Array.getElem?_eq_some_iff.1 h2).1
theorem Grid.glt {w : World} {B g m n k : Nat} {P : Nat → Nat} {A : Nat → Nat → Nat} (h : Grid w B g P A m n k) : g < w.heap.size := by
  obtain ⟨C, h1, _⟩ := h.top
  exact (Array.getElem?_eq_some_iff.1 h1).1
theorem Grid.rowF {w : World} {B g m n k i : Nat} {P : Nat → Nat} {A : Nat → Nat → Nat} (h : Grid w B g P A m n k) (hi : i < k) : RowF w (some ⟨P i, 0, none⟩) (A i) n :=
  Or.inr ⟨P i, 0, rfl, fun j hj => by rw [Nat.zero_add]; exact h.cell hi hj⟩
theorem Grid.matF {w : World} {B g m n k : Nat} {P : Nat → Nat} {A : Nat → Nat → Nat} (h : Grid w B g P A m n k) : MatF w (some ⟨g, 0, none⟩) A k n :=
  Or.inr ⟨g, 0, rfl, fun i hi => ⟨some ⟨P i, 0, none⟩, n, by rw [Nat.zero_add]; exact h.tcell hi, Nat.le_refl _, h.rowF hi⟩⟩
/-- One place changed. -/
def upd (A : Nat → Nat → Nat) (r c v : Nat) : Nat → Nat → Nat := fun i j => if i = r ∧ j = c then v else A i j
theorem Grid.set {w : World} {B g m n k r c v : Nat} {P : Nat → Nat} {A : Nat → Nat → Nat} (h : Grid w B g P A m n k) (hr : r < k) (hc : c < n) : Grid (w.setCell ⟨P r, c, none⟩ (.int .u8 ((v : Nat) : Int))) B g P (upd A r c v) m n k := by
  obtain ⟨C, h1, h2⟩ := h.top
  refine ⟨h.gB, ⟨C, by rw [Below.heap_setCell _ _ _ _ (h.gP hr).symm]; exact h1, h2⟩, fun i hi => ?_, h.inj⟩
  obtain ⟨h3, R, h4, h5, h6⟩ := h.row i hi
  refine ⟨h3, ?_⟩
  by_cases e : i = r
  · subst e
    refine ⟨R.setIfInBounds c (.int .u8 (v : Int)), ?_, by simp [h5], fun j hj => ?_⟩
    · rw [setCell_eq_setRow w (P i) c R 5 (0, 0) _ h4]; exact setRow_heap w (P i) R _ 5 (0, 0) h4
    · unfold upd
      by_cases e2 : j = c
      · subst e2; rw [Array.getElem?_setIfInBounds_self_of_lt (by omega), if_pos ⟨rfl, rfl⟩]
      · rw [Array.getElem?_setIfInBounds_ne (by omega), if_neg (fun h => e2 h.2)]; exact h6 j hj
  · refine ⟨R, ?_, h5, fun j hj => ?_⟩
    · rw [Below.heap_setCell _ _ _ _ (fun e2 => e (h.inj i r hi hr e2))]; exact h4
    · unfold upd; rw [if_neg (fun h => e h.1)]; exact h6 j hj
/-- A store elsewhere. -/
theorem Grid.other {w : World} {B g m n k : Nat} {P : Nat → Nat} {A : Nat → Nat → Nat} {ad : Addr} {u : Value} (h : Grid w B g P A m n k) (h1 : ad.block ≠ g) (h2 : ∀ i, i < k → ad.block ≠ P i) : Grid (w.setCell ad u) B g P A m n k := by
  obtain ⟨C, h3, h4⟩ := h.top
  refine ⟨h.gB, ⟨C, by rw [Below.heap_setCell _ _ _ _ h1.symm]; exact h3, h4⟩, fun i hi => ?_, h.inj⟩
  obtain ⟨h5, R, h6, h7⟩ := h.row i hi
  exact ⟨h5, R, by rw [Below.heap_setCell _ _ _ _ (h2 i hi).symm]; exact h6, h7⟩
/-- Two rows changed round: what the list holds. -/
def swapP (p q : Nat) (P : Nat → Nat) : Nat → Nat := fun i => if i = p then P q else if i = q then P p else P i
theorem Grid.swap {w : World} {B g m n k p q : Nat} {P : Nat → Nat} {A : Nat → Nat → Nat} (h : Grid w B g P A m n k) (hp : p < k) (hq : q < k) (hkm : k ≤ m) :
    Grid ((w.setCell ⟨g, p, none⟩ (.slice (some ⟨P q, 0, none⟩) n n)).setCell ⟨g, q, none⟩ (.slice (some ⟨P p, 0, none⟩) n n)) B g (swapP p q P) (Gf.swapR p q A) m n k := by
  obtain ⟨C, h1, h2, h3⟩ := h.top
  have e1 : (w.setCell ⟨g, p, none⟩ (.slice (some ⟨P q, 0, none⟩) n n)).heap[g]? = some (.cells (C.setIfInBounds p (.slice (some ⟨P q, 0, none⟩) n n)) 54 (0, 0)) := by
    rw [setCell_eq_setRow w g p C 54 (0, 0) _ h1]; exact setRow_heap w g C _ 54 (0, 0) h1
  refine ⟨h.gB, ⟨(C.setIfInBounds p (.slice (some ⟨P q, 0, none⟩) n n)).setIfInBounds q (.slice (some ⟨P p, 0, none⟩) n n), ?_, by simp [h2], fun i hi => ?_⟩, fun i hi => ?_, fun i j hi hj e => ?_⟩
  · rw [setCell_eq_setRow _ g q _ 54 (0, 0) _ e1]; exact setRow_heap _ g _ _ 54 (0, 0) e1
  · unfold swapP
    by_cases ei : i = p
    · by_cases eq : i = q
      · subst ei eq; rw [if_pos rfl, Array.getElem?_setIfInBounds_self_of_lt (by simp; omega)]
      · rw [if_pos ei, Array.getElem?_setIfInBounds_ne (by omega), ei, Array.getElem?_setIfInBounds_self_of_lt (by omega)]
    · by_cases eq : i = q
      · rw [if_neg ei, if_pos eq, eq, Array.getElem?_setIfInBounds_self_of_lt (by simp; omega)]
      · rw [if_neg ei, if_neg eq, Array.getElem?_setIfInBounds_ne (by omega), Array.getElem?_setIfInBounds_ne (by omega)]; exact h3 i hi
  · have key : ∀ s, s < k → B ≤ P s ∧ ∃ R, ((w.setCell ⟨g, p, none⟩ (.slice (some ⟨P q, 0, none⟩) n n)).setCell ⟨g, q, none⟩ (.slice (some ⟨P p, 0, none⟩) n n)).heap[P s]? = some (.cells R 5 (0, 0)) ∧ R.size = n ∧ ∀ j, j < n → R[j]? = some (.int .u8 ((A s j : Nat) : Int)) := fun s hs => by
      obtain ⟨h5, R, h6, h7⟩ := h.row s hs
      exact ⟨h5, R, by rw [Below.heap_setCell _ _ _ _ (h.gP hs), Below.heap_setCell _ _ _ _ (h.gP hs)]; exact h6, h7⟩
    unfold swapP Gf.swapR
    by_cases ei : i = p
    · simp only [if_pos ei]; exact key q hq
    · by_cases eq : i = q
      · simp only [if_neg ei, if_pos eq]; exact key p hp
      · simp only [if_neg ei, if_neg eq]; exact key i hi
  · unfold swapP at e
    have hpq := h.inj p q hp hq
    have hip := h.inj i p hi hp
    have hiq := h.inj i q hi hq
    have hjp := h.inj j p hj hp
    have hjq := h.inj j q hj hq
    have hij := h.inj i j hi hj
    by_cases a1 : i = p
    · by_cases b1 : j = p
      · omega
      · by_cases b2 : j = q
        · rw [if_pos a1, if_neg b1, if_pos b2] at e; have := hpq e.symm; omega
        · rw [if_pos a1, if_neg b1, if_neg b2] at e; have := hjq e.symm; omega
    · by_cases a2 : i = q
      · by_cases b1 : j = p
        · rw [if_neg a1, if_pos a2, if_pos b1] at e; have := hpq e; omega
        · by_cases b2 : j = q
          · omega
          · rw [if_neg a1, if_pos a2, if_neg b1, if_neg b2] at e; have := hjp e.symm; omega
      · by_cases b1 : j = p
        · rw [if_neg a1, if_neg a2, if_pos b1] at e; have := hiq e; omega
        · by_cases b2 : j = q
          · rw [if_neg a1, if_neg a2, if_neg b1, if_pos b2] at e; have := hip e; omega
          · rw [if_neg a1, if_neg a2, if_neg b1, if_neg b2] at e; exact hij e
theorem upd_same (A : Nat → Nat → Nat) (r c v : Nat) : upd A r c v r c = v := by unfold upd; rw [if_pos ⟨rfl, rfl⟩]

/-- 'make([][]byte, n)'. -/
theorem make_rows (w : World) (n : Nat) (h : n ≤ 4096) : ∃ w' cur, (Instr.makeSlice 34 (.int .i64 (n : Int)) (.int .i64 (n : Int))).run Try.prog w = .ok (.slice (some ⟨w.heap.size, 0, none⟩) n n) w' ∧
    w'.heap[w.heap.size]? = some (.cells cur 54 (0, 0)) ∧ cur.size = n ∧ Below w.heap.size w w' := by
  obtain ⟨i0, hi, hz0, hz1, hz2⟩ := info_parts info31
  obtain ⟨w', hrun, own, gr⟩ := run_make_full (P := Try.prog) w w.heap.size 34 54 i0 (.slice none 0 0) 1 (by kernel_rfl) hi hz0 hz1 .i64 .i64 n (by rw [hz2]; omega) (by unfold maxLen; omega) (Nat.le_refl _)
  have hb : Below w.heap.size w w' := (Below.refl _ _).grown gr (Nat.le_refl _) (fun k e => by cases e)
  rcases own.2 with ⟨h1, _⟩ | ⟨g, cap, cur, h1, _, h3, _, _, h6, _⟩
  · cases h1
  · injection h1 with e1 e2 e3
    injection e1 with e1
    injection e1 with e1 e4 e5
    subst e1 e3
    exact ⟨w', cur, hrun, h3, by omega, hb⟩

/-- A new row under the list. -/
theorem Grid.push {w w3 : World} {B g m n k : Nat} {P : Nat → Nat} {A : Nat → Nat → Nat} {cur : Array Value} (h : Grid w B g P A m n k) (hkm : k < m) (hBw : B ≤ w.heap.size) (hb3 : Below w.heap.size w w3) (hg : w3.heap[w.heap.size]? = some (.cells cur 5 (0, 0))) (hcs : cur.size = n)
    (hz : ∀ q, q < n → cur[q]? = some (.int .u8 ((A k q : Nat) : Int))) :
    Grid (w3.setCell ⟨g, k, none⟩ (.slice (some ⟨w.heap.size, 0, none⟩) n n)) B g (fun i => if i = k then w.heap.size else P i) A m n (k + 1) := by
  have h' := h.up hb3
  obtain ⟨C, h1, h2, h3⟩ := h'.top
  have hgl := h.glt
  refine ⟨h.gB, ⟨C.setIfInBounds k (.slice (some ⟨w.heap.size, 0, none⟩) n n), ?_, by simp [h2], fun i hi => ?_⟩, fun i hi => ?_, fun i j hi hj e => ?_⟩
  · rw [setCell_eq_setRow w3 g k C 54 (0, 0) _ h1]; exact setRow_heap w3 g C _ 54 (0, 0) h1
  · by_cases e : i = k
    · subst e; simp only [if_true]; rw [Array.getElem?_setIfInBounds_self_of_lt (by omega)]
    · simp only [if_neg e]; rw [Array.getElem?_setIfInBounds_ne (by omega)]; exact h3 i (by omega)
  · by_cases e : i = k
    · subst e; simp only [if_true]
      exact ⟨hBw, cur, by rw [Below.heap_setCell _ _ _ _ (show w.heap.size ≠ g by omega)]; exact hg, hcs, hz⟩
    · simp only [if_neg e]
      obtain ⟨h5, R, h6, h7⟩ := h'.row i (by omega)
      exact ⟨h5, R, by rw [Below.heap_setCell _ _ _ _ (h'.gP (by omega))]; exact h6, h7⟩
  · by_cases e1 : i = k
    · by_cases e2 : j = k
      · omega
      · simp only [if_pos e1, if_neg e2] at e
        have := h.lt (i := j) (by omega)
        omega
    · by_cases e2 : j = k
      · simp only [if_neg e1, if_pos e2] at e
        have := h.lt (i := i) (by omega)
        omega
      · simp only [if_neg e1, if_neg e2] at e
        exact h.inj i j (by omega) (by omega) e

set_option maxHeartbeats 1000000 in
set_option maxRecDepth 100000 in
theorem zeros_any (m n : Nat) (M N : Int) (hM : M = (m : Int)) (hN : N = (n : Int)) (hm : m ≤ 64) (hn : n ≤ 64) (w : World) :
    Calls Try.prog 49 #[.int .i64 M, .int .i64 N] w fun e w' => ∃ g P, e = .returned (.slice (some ⟨g, 0, none⟩) m m) ∧ Grid w' w.heap.size g P (fun _ _ => 0) m n m ∧ Below w.heap.size w w' := by
  subst hM hN
  go_enter Try.func49, Try.ntmps49
  go_wp2_with fail
  obtain ⟨w1, cur, hrun, hg, hcs, hb1⟩ := make_rows w m (by omega)
  rw [hrun]
  clear hrun
  obtain ⟨g, eg⟩ : ∃ g, g = w.heap.size := ⟨_, rfl⟩
  have G0 : Hid (Grid w1 w.heap.size g (fun _ => 0) (fun _ _ => 0) m n 0) := ⟨by omega, ⟨cur, by rw [eg]; exact hg, hcs, fun i hi => by omega⟩, fun i hi => by omega, fun i j hi => by omega⟩
  rw [← eg]
  have HB1 : Hid (Below w.heap.size w w1) := hb1
  clear hg hcs hb1 eg
  go_wp2_with fail
  go_loopw [11] (fun i wr => ∃ (k : Nat) (P : Nat → Nat), k ≤ m ∧ i = .int .i64 (k : Int) ∧ Hid (Grid wr w.heap.size g P (fun _ _ => 0) m n k) ∧ Hid (Below w.heap.size w wr)) (fun i _ => m - (intOf i).toNat)
  case atStart => exact ⟨0, _, by omega, rfl, G0, HB1⟩
  case round =>
    obtain ⟨k, P, hk, rfl, HG, HB⟩ := hrel
    clear G0 HB1
    by_cases hlt : k < m
    · have hi1 : (k : Int) < (m : Int) := by omega
      go_wp2_with fail
      obtain ⟨w3, cur, hrun, hg, hcs, hz, hb3⟩ := make_zeros wr n (by omega)
      rw [hrun]
      clear hrun
      have G3 := HG.out.push hlt HB.out.size hb3 hg hcs (fun q hq => by rw [hz q hq]; rfl)
      have G3' : Hid (Grid (w3.setCell ⟨g, k, none⟩ (.slice (some ⟨wr.heap.size, 0, none⟩) n n)) w.heap.size g (fun i => if i = k then wr.heap.size else P i) (fun _ _ => 0) m n (k + 1)) := G3
      have B3 : Hid (Below w.heap.size w (w3.setCell ⟨g, k, none⟩ (.slice (some ⟨wr.heap.size, 0, none⟩) n n))) := (HB.out.trans (hb3.mono HB.out.size)).setCell HG.out.gB _
      obtain ⟨C, c1, c2, c3⟩ := (HG.out.up hb3).top
      obtain ⟨u, d1⟩ : ∃ u, w3.cell? ⟨g, k, none⟩ = some u := ⟨C[k]'(by omega), by rw [cell_of_row w3 g k C 54 (0, 0) c1]; simp⟩
      have d2 : w3.frozen? ⟨g, k, none⟩ = false := by simp [World.frozen?, c1]
      obtain ⟨S, eS⟩ : ∃ S, S = wr.heap.size := ⟨_, rfl⟩
      rw [← eS] at G3' B3 ⊢
      clear eS hz hg hcs hb3 HG HB G3 c3 c1 c2
      go_wp2_with fail
      exact ⟨⟨k + 1, _, by omega, by go_num, G3', B3⟩, by simp [intOf]; omega⟩
    · have hkm : k = m := by omega
      subst hkm
      have i1 : decide ((k : Int) < (k : Int)) = false := by simp
      go_wp2_with fail
      go_ret
      exact ⟨g, P, rfl, HG.out, HB.out⟩
end Go.Proofs.Ytmhhegkpkncebaa
