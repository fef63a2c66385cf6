/-
  read: the request that the arguments make.
-/
import Derived.Test.YtedbklipbfbmoaaDoorRd
namespace Go.Proofs.YtedbklipbfbmoaaDoor
open Go.RowKit

theorem size_alloc (w : World) (ob : Obj) : (w.alloc ob).heap.size = w.heap.size + 1 := by simp
/-- Marks when reading begins. -/
def o2 (R : Nat) : Nat → Nat × Nat := lab o0 R (2, 0)
theorem o2_other {R b : Nat} (h : b ≠ R) : o2 R b = (0, 0) := lab_other _ _ _ h
theorem o2_out {R b : Nat} (h : b ≠ R) : ¬ TR (o2 R b) := by rw [o2_other h]; rintro (e | e) <;> cases e
theorem Rd.cell {w2 wr : World} {o : Nat → Nat × Nat} {R : Nat} {r : Rq} {a : Option Addr} {n c : Nat} (h : Rd w2 (o2 R) wr o R r a n c) {b off : Nat} {v : Value} (hc : w2.cell? ⟨b, off, none⟩ = some v) (hb : b ≠ R) : wr.cell? ⟨b, off, none⟩ = some v := h.fr.cell hc (o2_out hb)
theorem Rd.frz {w2 wr : World} {o : Nat → Nat × Nat} {R : Nat} {r : Rq} {a : Option Addr} {n c : Nat} (h : Rd w2 (o2 R) wr o R r a n c) {b off : Nat} (hl : b < w2.heap.size) (hc : w2.frozen? ⟨b, off, none⟩ = false) (hb : b ≠ R) : wr.frozen? ⟨b, off, none⟩ = false := (h.fr.frozen hl (o2_out hb)).trans hc
/-- The nine cells where the answer goes. -/
def ZV : List Value := Rq.none.cs (.slice none 0 0)
theorem zv_one : ∀ u ∈ ZV, u.oneCell' = true := cs_one _ _ _ _
/-- The world in which reading begins: the form, the answer's place, the request. -/
def w2 (w : World) (f : Fm) (kv : Value) : World := ((w.alloc (.cells #[kv, .int .i64 ((f.least : Nat) : Int), .int .i64 ((f.most : Nat) : Int), .bool f.hush] 72)).alloc (.cells ZV.toArray 30)).alloc (.cells ZV.toArray 30)
theorem w2_size (w : World) (f : Fm) (kv : Value) : (w2 w f kv).heap.size = w.heap.size + 3 := by simp [w2]
theorem w2_up (w : World) (f : Fm) (kv : Value) : Below w.heap.size w (w2 w f kv) := alloc3_up _ _ _ _
theorem new_up {w : World} {b o : Nat} {v : Value} (c : Obj) (h : w.cell? ⟨b, o, none⟩ = some v) : (w.alloc c).cell? ⟨b, o, none⟩ = some v := cell_up ((Below.refl _ _).alloc (Nat.le_refl _) c) h
theorem w2_form (w : World) (f : Fm) (kv : Value) : (w2 w f kv).cell? ⟨w.heap.size, 0, none⟩ = some kv := by
  unfold w2
  refine new_up _ (new_up _ ?_)
  rw [World.cell?_alloc_new]; rfl
theorem w2_ans (w : World) (f : Fm) (kv : Value) {j : Nat} {v : Value} (h : ZV[j]? = some v) : (w2 w f kv).cell? ⟨w.heap.size + 1, j, none⟩ = some v := by
  unfold w2
  refine new_up _ ?_
  have := World.cell?_alloc_new (w.alloc (.cells #[kv, .int .i64 ((f.least : Nat) : Int), .int .i64 ((f.most : Nat) : Int), .bool f.hush] 72)) ZV.toArray 30 j
  simp only [size_alloc] at this
  rw [this, List.getElem?_toArray]; exact h
theorem w2_ansf (w : World) (f : Fm) (kv : Value) (j : Nat) : (w2 w f kv).frozen? ⟨w.heap.size + 1, j, none⟩ = false := by
  unfold w2
  rw [World.frozen?_of_block (a := ⟨w.heap.size + 1, j, none⟩) (w := ((w.alloc (.cells #[kv, .int .i64 ((f.least : Nat) : Int), .int .i64 ((f.most : Nat) : Int), .bool f.hush] 72)).alloc (.cells ZV.toArray 30))) (Below.heap_alloc _ _ _ (by simp))]
  have := World.frozen?_alloc_new (w.alloc (.cells #[kv, .int .i64 ((f.least : Nat) : Int), .int .i64 ((f.most : Nat) : Int), .bool f.hush] 72)) ZV.toArray 30 j
  simp only [size_alloc] at this
  exact this
theorem w2_rd (w : World) (f : Fm) (kv : Value) : Rd (w2 w f kv) (o2 (w.heap.size + 2)) (w2 w f kv) (o2 (w.heap.size + 2)) (w.heap.size + 2) Rq.none none 0 0 := by
  refine ⟨OwnK.nil _ _ _ _, rfl, lab_same _ _ _, by rw [w2_size]; omega, fun j v hv => ?_, fun j => ?_, Fr.refl _ _ _⟩
  · rw [Nat.zero_add]
    have := World.cell?_alloc_new ((w.alloc (.cells #[kv, .int .i64 ((f.least : Nat) : Int), .int .i64 ((f.most : Nat) : Int), .bool f.hush] 72)).alloc (.cells ZV.toArray 30)) ZV.toArray 30 j
    simp only [size_alloc, Nat.add_assoc, Nat.reduceAdd] at this
    unfold w2
    rw [this, List.getElem?_toArray]; exact hv
  · have := World.frozen?_alloc_new ((w.alloc (.cells #[kv, .int .i64 ((f.least : Nat) : Int), .int .i64 ((f.most : Nat) : Int), .bool f.hush] 72)).alloc (.cells ZV.toArray 30)) ZV.toArray 30 j
    simp only [size_alloc, Nat.add_assoc, Nat.reduceAdd] at this
    unfold w2
    exact this
/-- The answer stored. -/
theorem Rd.ends {w wr : World} {o : Nat → Nat × Nat} {f : Fm} {kv : Value} {r : Rq} {a : Option Addr} {n c : Nat} (h : Rd (w2 w f kv) (o2 (w.heap.size + 2)) wr o (w.heap.size + 2) r a n c) (r' : Rq) (a' : Option Addr) (n' c' : Nat) :
    wr.there (w.heap.size + 1) 0 9 ∧ Below w.heap.size w wr ∧ Below (w.heap.size + 1) wr (wr.setCells (w.heap.size + 1) 0 (r'.cs (.slice a' n' c'))) ∧ (wr.setCells (w.heap.size + 1) 0 (r'.cs (.slice a' n' c'))).rangeAt (w.heap.size + 1) 0 (r'.cs (.slice a' n' c')) ∧
      Fr (fun t => t = (0, 0)) o o wr (wr.setCells (w.heap.size + 1) 0 (r'.cs (.slice a' n' c'))) := by
  have ht : wr.there (w.heap.size + 1) 0 9 := fun j hj => by
    obtain ⟨v, hv⟩ : ∃ v, ZV[j]? = some v := ⟨_, List.getElem?_eq_getElem (show j < ZV.length from hj)⟩
    rw [Nat.zero_add]
    exact ⟨by rw [h.cell (w2_ans w f kv hv) (by omega)]; rfl, h.frz (by rw [w2_size]; omega) (w2_ansf w f kv j) (by omega)⟩
  have hs := h.fr.size
  rw [w2_size] at hs
  have hP : o (w.heap.size + 1) = (0, 0) := (h.fr.lab _ (by rw [w2_size]; omega)).trans (o2_other (by omega))
  have fs : Fr (fun t => t = (0, 0)) o o wr (wr.setCells (w.heap.size + 1) 0 (r'.cs (.slice a' n' c'))) := Fr.sets (T := fun t => t = (0, 0)) hP _ _ _
  refine ⟨ht, ?_, ?_, World.rangeAt_setCells_same _ _ _ _ ht, fs⟩
  · have b1 := w2_up w f kv
    have b2 : Below w.heap.size (w2 w f kv) wr := h.fr.below (by rw [w2_size]; omega) (fun b hb => o2_out (by omega))
    exact b1.trans b2
  · have f2 : Fr (fun t => t = (9, 9)) (lab (fun _ => (0, 0)) (w.heap.size + 1) (9, 9)) (lab (fun _ => (0, 0)) (w.heap.size + 1) (9, 9)) wr (wr.setCells (w.heap.size + 1) 0 (r'.cs (.slice a' n' c'))) := Fr.sets (T := fun t => t = (9, 9)) (lab_same _ _ _) _ _ _
    exact f2.below (by omega) (fun b hb e => by rw [lab_other _ _ _ (by omega)] at e; cases e)
/-- What read leaves. -/
theorem Rd.fin {w wr : World} {o : Nat → Nat × Nat} {f : Fm} {kv : Value} {r : Rq} {a : Option Addr} {n c : Nat} (h : Rd (w2 w f kv) (o2 (w.heap.size + 2)) wr o (w.heap.size + 2) r a n c) (r' : Rq) (a' : Option Addr) (n' c' : Nat) (hk : (r' = Rq.none ∧ a' = none ∧ n' = 0 ∧ c' = 0) ∨ (r' = r ∧ a' = a ∧ n' = n ∧ c' = c)) :
    Strs (wr.setCells (w.heap.size + 1) 0 (r'.cs (.slice a' n' c'))) (.slice a' n' c') r'.keys ∧ Below w.heap.size w (wr.setCells (w.heap.size + 1) 0 (r'.cs (.slice a' n' c'))) ∧ ∀ A, a' = some A → w.heap.size ≤ A.block := by
  obtain ⟨_, b1, b2, _, fs⟩ := h.ends r' a' n' c'
  have hs := h.fr.size
  rw [w2_size] at hs
  refine ⟨?_, b1.trans (b2.mono (by omega)), ?_⟩
  · rcases hk with ⟨rfl, rfl, rfl, rfl⟩ | ⟨rfl, rfl, rfl, rfl⟩
    · exact ⟨none, 0, rfl, Nat.le_refl _, fun e => absurd rfl e⟩
    · have := h.own.fr fs (fun e => by cases e)
      exact this.strs
  · rcases hk with ⟨rfl, rfl, rfl, rfl⟩ | ⟨rfl, rfl, rfl, rfl⟩
    · intro A e; cases e
    · intro A e
      rcases h.own.2.2 with ⟨e1, _⟩ | ⟨g, cap, e1, hm, _⟩
      · injection e1 with e1; rw [e1] at e; cases e
      · injection e1 with e1
        rw [e1] at e
        injection e with e
        subst e
        refine Nat.le_of_not_lt fun hlt => ?_
        have := h.fr.lab g (by rw [w2_size]; simp only at hlt; omega)
        rw [hm, o2_other (by simp only at hlt; omega)] at this
        cases this
end Go.Proofs.YtedbklipbfbmoaaDoor
