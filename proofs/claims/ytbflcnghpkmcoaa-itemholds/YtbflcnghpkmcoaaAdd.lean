/-
  ADD of a row: an entry goes to the beginning of its bucket.
-/
import Derived.Test.YtbflcnghpkmcoaaGet
namespace Go.Proofs.Ytbflcnghpkmcoaa
open Go.RowKit

def updE (N : Nat → List Ent) (j : Nat) (l : List Ent) : Nat → List Ent := fun i => if i = j then l else N i
theorem updE_same (N : Nat → List Ent) (j : Nat) (l : List Ent) : updE N j l j = l := if_pos rfl
theorem updE_other (N : Nat → List Ent) (j : Nat) (l : List Ent) {i : Nat} (h : i ≠ j) : updE N j l i = N i := if_neg h
theorem RowR.cg {w w' : World} {o o' : Nat → Nat × Nat} {x G n : Nat} {E : Nat → List Ent} (h : RowR w o x G n E) (hG : w'.heap[G]? = w.heap[G]?) (ho : o' G = o G) (hb : ∀ i, i < n → ∀ q ∈ E i, w'.heap[q.b]? = w.heap[q.b]? ∧ o' q.b = o q.b) : RowR w' o' x G n E :=
  ⟨ho.trans h.og, fun i hi => (World.cell?_of_block (a := ⟨G, i, none⟩) hG).trans (h.cl i hi), fun i hi => (World.frozen?_of_block (a := ⟨G, i, none⟩) hG).trans (h.fz i hi), fun i hi => (h.ch i hi).cg (fun q hq => (hb i hi q hq).1) (fun q hq => (hb i hi q hq).2)⟩
/-- A bucket's array is no entry. -/
theorem EntF.ne {w w' : World} {o : Nat → Nat × Nat} {x x' G n : Nat} {e : Ent} {nx : Value} {E : Nat → List Ent} (h : EntF w o x e nx) (r : RowR w' o x' G n E) : e.b ≠ G := by
  intro hb
  have h1 := h.ob
  rw [hb, r.og] at h1
  injection h1 with _ h1; cases h1
theorem heap_set2 (w : World) (p q : Addr) (u v : Value) {b : Nat} (h1 : b ≠ p.block) (h2 : b ≠ q.block) : ((w.setCell p u).setCell q v).heap[b]? = w.heap[b]? :=
  (Below.heap_setCell _ _ _ _ h2).trans (Below.heap_setCell _ _ _ _ h1)
theorem blk_set (w : World) (p : Addr) (u : Value) {b : Nat} (h1 : b ≠ p.block) : (w.setCell p u).heap[b]? = w.heap[b]? := Below.heap_setCell _ _ _ _ h1
/-- What two stores leave of a row. -/
theorem RowR.add {w : World} {o : Nat → Nat × Nat} {x G n j : Nat} {N : Nat → List Ent} {e : Ent} {nx : Value} (r : RowR w o x G n N) (hj : j < n) (he : EntF w o x e nx) (hk : ∀ i, i < n → ∀ q ∈ N i, q.k ≠ e.k) :
    RowR ((w.setCell ⟨e.b, 2, none⟩ (hd (N j))).setCell ⟨G, j, none⟩ (.pointer (some ⟨e.b, 0, none⟩))) o x G n (updE N j (e :: N j)) := by
  have hne := he.ne r
  have nb : ∀ i, i < n → ∀ q ∈ N i, q.b ≠ e.b ∧ q.b ≠ G := fun i hi q hq => by
    obtain ⟨_, hq'⟩ := (r.ch i hi).mem hq
    exact ⟨fun hb => hk i hi q hq (hq'.key he hb), hq'.ne r⟩
  have keep : ∀ i, i < n → Chn ((w.setCell ⟨e.b, 2, none⟩ (hd (N j))).setCell ⟨G, j, none⟩ (.pointer (some ⟨e.b, 0, none⟩))) o x (N i) := fun i hi =>
    (r.ch i hi).cg (fun q hq => heap_set2 _ _ _ _ _ (nb i hi q hq).1 (nb i hi q hq).2) (fun _ _ => rfl)
  have cG : ∀ i, i < n → (w.setCell ⟨e.b, 2, none⟩ (hd (N j))).cell? ⟨G, i, none⟩ = some (hd (N i)) := fun i hi =>
    (World.cell?_of_block (a := ⟨G, i, none⟩) (blk_set w ⟨e.b, 2, none⟩ _ (fun h => hne h.symm))).trans (r.cl i hi)
  have ce : ∀ q, ((w.setCell ⟨e.b, 2, none⟩ (hd (N j))).setCell ⟨G, j, none⟩ (.pointer (some ⟨e.b, 0, none⟩))).cell? ⟨e.b, q, none⟩ = (w.setCell ⟨e.b, 2, none⟩ (hd (N j))).cell? ⟨e.b, q, none⟩ := fun q =>
    World.cell?_of_block (a := ⟨e.b, q, none⟩) (blk_set _ ⟨G, j, none⟩ _ hne)
  refine ⟨r.og, fun i hi => ?_, fun i hi => ?_, fun i hi => ?_⟩
  · by_cases ei : i = j
    · subst ei; rw [updE_same]; exact World.cell?_setCell_same _ _ _ (cG i hi)
    · rw [updE_other _ _ _ ei, World.cell?_setCell_other _ _ _ _ (fun h => ei (by injection h with _ h; exact h.symm))]; exact cG i hi
  · rw [World.frozen?_setCell, World.frozen?_setCell]; exact r.fz i hi
  · by_cases ei : i = j
    · subst ei
      rw [updE_same]
      refine ⟨⟨he.ob, ?_, ?_, ?_, ?_, ?_, he.ks⟩, keep i hi⟩
      · rw [ce, World.cell?_setCell_other _ _ _ _ (fun h => by injection h with _ h; cases h)]; exact he.c0
      · rw [ce, World.cell?_setCell_other _ _ _ _ (fun h => by injection h with _ h; cases h)]; exact he.c1
      · rw [ce]; exact World.cell?_setCell_same _ _ _ he.c2
      · rw [World.frozen?_setCell, World.frozen?_setCell]; exact he.f1
      · rw [World.frozen?_setCell, World.frozen?_setCell]; exact he.f2
    · rw [updE_other _ _ _ ei]; exact keep i hi
set_option maxRecDepth 100000 in
set_option maxHeartbeats 1000000 in
theorem add_any (x C G n : Nat) (N : Nat → List Ent) (e : Ent) (nx : Value) (hn0 : 0 < n) (hn : n ≤ 8192) (w : World) (o : Nat → Nat × Nat) (c2 : w.cell? ⟨C, 2, none⟩ = some (.slice (some ⟨G, 0, none⟩) n n)) (c3 : w.cell? ⟨C, 3, none⟩ = some (.int .i64 0)) (oC : o C = (x, 0)) (he : EntF w o x e nx) (r : RowR w o x G n N) :
    Calls Try.prog 67 #[.pointer (some ⟨C, 2, none⟩), .pointer (some ⟨e.b, 0, none⟩)] w fun r w' => r = .returned (.tuple #[]) ∧ ∃ d, w' = ((w.drewN d).setCell ⟨e.b, 2, none⟩ (hd (N (hsn e.k % n)))).setCell ⟨G, hsn e.k % n, none⟩ (.pointer (some ⟨e.b, 0, none⟩)) := by
  have hk := he.ks
  have e0 := he.c0
  have e2 := he.c2
  have f2 := he.f2
  obtain ⟨j, hj⟩ : ∃ j, j = hsn e.k % n := ⟨_, rfl⟩
  have hjn : j < n := by rw [hj]; exact Nat.mod_lt _ hn0
  have HJ : Hid (j = hsn e.k % n) := hj
  have g1 := r.cl j hjn
  have g2 := r.fz j hjn
  have hne := he.ne r
  have eC : e.b ≠ C := fun hb => by have h1 := he.ob; rw [hb, oC] at h1; injection h1 with _ h1; cases h1
  have hh := hsn_lt e.k
  have ji : (j : Int) < (n : Int) := by omega
  rw [← hj, hd_eq]
  rw [hd_eq] at g1
  clear he r oC hj
  go_enter Try.func67, Try.ntmps67
  go_wp2_with fail
  refine (hash_any e.k hk _).mono ?_
  rintro e' w2 ⟨rfl, rfl⟩
  rw [hsn_eq]
  go_wp2_with fail
  refine (place_any C 2 n n 0 (hsn e.k) (some ⟨G, 0, none⟩) hn hh _ c2 c3).mono ?_
  rintro e' w2 ⟨rfl, d, rfl⟩
  rw [if_neg (by omega), ← HJ.out]
  obtain ⟨bb, hbb⟩ : ∃ b, b = decide (0 < n ∧ 0 ≤ j) := ⟨_, rfl⟩
  rw [← hbb]
  clear hbb
  go_wp2_with fail
  exact bodyPost_end (v := .tuple #[]) (by simp [results, Try.results67, go_sem]) rfl ⟨rfl, d, rfl⟩
end Go.Proofs.Ytbflcnghpkmcoaa
