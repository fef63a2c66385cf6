/-
  SQUARE of the laws: a matrix of n rows of n bytes out of a row of bytes, in new memory.
-/
import Derived.Test.YtmhhegkpkncebaaMat
namespace Go.Proofs.Ytmhhegkpkncebaa
open Go.RowKit

theorem info31 : (Try.prog.info? 54).map (fun i => (i.zero, i.size, i.bytes)) = some (some (.slice none 0 0), 1, 24) := by kernel_rfl
theorem under27 : Try.prog.underlying 34 = some (.slice 54) := by kernel_rfl
/-- 'make([]byte, n)', its noughts told. -/
theorem make_zeros (w : World) (n : Nat) (h : n ≤ 281474976710656) : ∃ w' cur, (Instr.makeSlice 54 (.int .i64 (n : Int)) (.int .i64 (n : Int))).run Try.prog w = .ok (.slice (some ⟨w.heap.size, 0, none⟩) n n) w' ∧
    w'.heap[w.heap.size]? = some (.cells cur 5 (0, 0)) ∧ cur.size = n ∧ (∀ q, q < n → cur[q]? = some (.int .u8 0)) ∧ Below w.heap.size w w' := by
  obtain ⟨i0, hi, hz0, hz1, hz2⟩ := info_parts info5
  obtain ⟨w', hrun, own, gr⟩ := run_make_full (P := Try.prog) w w.heap.size 54 5 i0 (.int .u8 0) 1 (by kernel_rfl) hi hz0 hz1 .i64 .i64 n (by rw [hz2]; omega) (by unfold maxLen; omega) (Nat.le_refl _)
  have hb : Below w.heap.size w w' := (Below.refl _ _).grown gr (Nat.le_refl _) (fun k e => by cases e)
  rcases own.2 with ⟨h1, _⟩ | ⟨g, cap, cur, h1, _, h3, _, _, h6, h7⟩
  · cases h1
  · injection h1 with e1 e2 e3
    injection e1 with e1
    injection e1 with e1 e4 e5
    subst e1 e3
    refine ⟨w', cur, hrun, h3, by omega, fun q hq => ?_, hb⟩
    have h8 : cur.toList.take (n * 1) = (madeCells (Value.int .u8 0).cells (n * 1)).toList := h7
    have h9 : (cur.toList.take (n * 1))[q]? = cur[q]? := by
      rw [List.getElem?_take_of_lt (by omega)]; simp
    rw [← h9, h8, show (Value.int .u8 0).cells = #[Value.int .u8 0] from rfl, toList_madeCells_one]
    simp [hq]

/-- Rows of n bytes, each in a block of its own. -/
def RowsOwn (w : World) (xs : List Value) (A : Nat → Nat → Nat) (n i : Nat) : Prop :=
  ∀ t, t < i → ∃ p R, xs[t]? = some (.slice (some ⟨p, 0, none⟩) n n) ∧ w.heap[p]? = some (.cells R 5 (0, 0)) ∧ R.size = n ∧ ∀ j, j < n → R[j]? = some (.int .u8 ((A t j : Nat) : Int))

theorem own_up {w w' : World} {B e s k : Nat} {v : Value} {xs : List Value} (h : w.ownsRow B e s v k xs) (hb : Below w.heap.size w w') : w'.ownsRow B e s v k xs := by
  obtain ⟨h1, h2⟩ := h
  refine ⟨h1, ?_⟩
  rcases h2 with h2 | ⟨g, cap, cur, hv, hg, hh, r⟩
  · exact Or.inl h2
  · exact Or.inr ⟨g, cap, cur, hv, hg, (hb.block g (Array.getElem?_eq_some_iff.1 hh).1).trans hh, r⟩
theorem RowsOwn.up {w w' : World} {xs : List Value} {A : Nat → Nat → Nat} {n i : Nat} (h : RowsOwn w xs A n i) (hb : Below w.heap.size w w') : RowsOwn w' xs A n i := by
  intro t ht
  obtain ⟨p, R, h1, h2, h3⟩ := h t ht
  exact ⟨p, R, h1, (hb.block p (Array.getElem?_eq_some_iff.1 h2).1).trans h2, h3⟩
theorem own_set {w : World} {B e s k G i : Nat} {v u : Value} {xs : List Value} {C : Array Value} (h : w.ownsRow B e s v k xs) (hG : w.heap[G]? = some (.cells C 5 (0, 0))) (he : e ≠ 5) : (w.setCell ⟨G, i, none⟩ u).ownsRow B e s v k xs := by
  obtain ⟨h1, h2⟩ := h
  refine ⟨h1, ?_⟩
  rcases h2 with h2 | ⟨g, cap, cur, hv, hg, hh, r⟩
  · exact Or.inl h2
  · have hne : g ≠ G := fun e' => by subst e'; rw [hG] at hh; injection hh with hh; injection hh with _ e2 _; exact he e2.symm
    exact Or.inr ⟨g, cap, cur, hv, hg, by rw [Below.heap_setCell _ _ _ _ hne]; exact hh, r⟩
theorem RowsOwn.set {w : World} {xs : List Value} {A : Nat → Nat → Nat} {n i G q : Nat} {u : Value} (h : RowsOwn w xs A n i) (hG : ∀ t p, t < i → xs[t]? = some (.slice (some ⟨p, 0, none⟩) n n) → p ≠ G) : RowsOwn (w.setCell ⟨G, q, none⟩ u) xs A n i := by
  intro t ht
  obtain ⟨p, R, h1, h2, h3⟩ := h t ht
  exact ⟨p, R, h1, by rw [Below.heap_setCell _ _ _ _ (hG t p ht h1)]; exact h2, h3⟩

theorem keeps5 {wr w1 : World} {B k p : Nat} {v : Value} {xs : List Value} {o : Obj} {R : Array Value} (own : wr.ownsRow B 54 1 v k xs) (hgrow : (wr.alloc o).grownBy w1 v.ownBlock) (hp : wr.heap[p]? = some (.cells R 5 (0, 0))) : w1.heap[p]? = some (.cells R 5 (0, 0)) := by
  have hlt : p < wr.heap.size := (Array.getElem?_eq_some_iff.1 hp).1
  have hne : some p ≠ v.ownBlock := by
    rcases own.2 with ⟨rfl, _⟩ | ⟨g, cap, cur, rfl, _, hh, _⟩
    · intro e; cases e
    · intro e
      injection e with e
      subst e
      rw [show wr.heap[p]? = _ from hh] at hp
      injection hp with hp; injection hp with _ e2 _
      exact absurd e2 (by decide)
  rw [hgrow.block p (by rw [World.size_alloc]; omega) hne, Below.heap_alloc _ _ _ hlt]; exact hp
theorem rows_step {wr w1 : World} {B k n G : Nat} {v : Value} {xs : List Value} {o : Obj} {C : Array Value} {A : Nat → Nat → Nat} (own : wr.ownsRow B 54 1 v k xs) (HR : RowsOwn wr xs A n k) (hG : wr.heap[G]? = some (.cells C 5 (0, 0))) (hC : C.size = n)
    (hrow : ∀ t, t < n → C[t]? = some (.int .u8 ((A k t : Nat) : Int))) (hgrow : (wr.alloc o).grownBy w1 v.ownBlock) : RowsOwn w1 (xs ++ [.slice (some ⟨G, 0, none⟩) n n]) A n (k + 1) := by
  have hlen : xs.length = k := by have := own.1; omega
  intro t ht
  by_cases e : t = k
  · subst e
    exact ⟨G, C, by rw [List.getElem?_append_right (by omega), hlen, Nat.sub_self]; rfl, keeps5 own hgrow hG, hC, hrow⟩
  · obtain ⟨p, R, h1, h2, h3⟩ := HR t (by omega)
    exact ⟨p, R, by rw [List.getElem?_append_left (by omega)]; exact h1, keeps5 own hgrow h2, h3⟩
theorem below_step {w wr w1 : World} {B k : Nat} {v : Value} {xs : List Value} {o : Obj} (hB : B = w.heap.size) (own : wr.ownsRow B 54 1 v k xs) (b5 : Below w.heap.size w wr) (hgrow : (wr.alloc o).grownBy w1 v.ownBlock) : Below w.heap.size w w1 :=
  (b5.alloc b5.size o).grown hgrow (by rw [World.size_alloc]; have := b5.size; omega) (fun k e => by have := (own.lt k e).1; omega)

end Go.Proofs.Ytmhhegkpkncebaa
