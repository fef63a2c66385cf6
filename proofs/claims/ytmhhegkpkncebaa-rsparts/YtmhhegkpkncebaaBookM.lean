/-
  ROOMY, SAME, INTACT of the book: their contracts at bytes.
-/
import Derived.Test.YtmhhegkpkncebaaUpM
namespace Go.Proofs.Ytmhhegkpkncebaa
open Go.RowKit

theorem make_bytes_c (w : World) (n : Nat) (N : Int) (hN : N = (n : Int)) (h : n ≤ 281474976710656) : ∃ w' cur, (Instr.makeSlice 54 (.int .i64 N) (.int .i64 N)).run Try.prog w = .ok (.slice (some ⟨w.heap.size, 0, none⟩) n n) w' ∧
    w'.heap[w.heap.size]? = some (.cells cur 5 (0, 0)) ∧ cur.size = n ∧ Below w.heap.size w w' := by
  subst hN; exact make_bytes w n h
theorem size5info : (Try.prog.info? 5).map (·.size) = some 1 := by kernel_rfl
theorem under32 : Try.prog.underlying 54 = some (.slice 5) := by kernel_rfl

/-- The cells of the first n of f's numbers. -/
def cellsOf (f : Nat → Nat) (n : Nat) : List Value := (List.range n).map (fun i => Value.int .u8 ((f i : Nat) : Int))
theorem cellsOf_length (f : Nat → Nat) (n : Nat) : (cellsOf f n).length = n := by simp [cellsOf]
theorem cellsOf_at (f : Nat → Nat) (n i : Nat) (h : i < n) : (cellsOf f n)[i]? = some (.int .u8 ((f i : Nat) : Int)) := by simp [cellsOf, h]
theorem cellsOf_one (f : Nat → Nat) (n : Nat) : ∀ v ∈ cellsOf f n, v.oneCell' = true := by
  intro v hv; simp only [cellsOf, List.mem_map] at hv; obtain ⟨i, _, rfl⟩ := hv; rfl
theorem RowF.src {w : World} {a : Option Addr} {f : Nat → Nat} {n : Nat} (h : RowF w a f n) (hp : 0 < (cellsOf f n).length) :
    ∃ ad, a = some ad ∧ ∀ j v, (cellsOf f n)[j]? = some v → w.cell? (ad.add j) = some v := by
  rw [cellsOf_length] at hp
  rcases h with h | ⟨p, off, rfl, hc⟩
  · exfalso; omega
  · refine ⟨_, rfl, fun j v hv => ?_⟩
    have hj : j < n := by
      have := (List.getElem?_eq_some_iff.1 hv).1
      rwa [cellsOf_length] at this
    rw [cellsOf_at f n j hj] at hv
    have e : (⟨p, off, none⟩ : Addr).add j = ⟨p, off + j, none⟩ := by unfold Addr.add; split <;> simp_all
    rw [e, hc j hj]; exact hv

theorem fill_step {w Y : World} {G n j : Nat} {C : Array Value} {g : Nat → Nat} {M : Prop} {l : Nat} (hL : l ≤ j) (hlt : j < n) (hC : C.size = n) (hG : w.heap.size ≤ G) (yG : Y.heap[G]? = some (.cells C 5 (0, 0)))
    (hQ : ∀ q, q < j → C[q]? = some (.int .u8 ((g q : Nat) : Int))) (yB : Below w.heap.size w Y) (hM : M) :
    (∃ (j' : Nat) (C' : Array Value), l ≤ j' ∧ j' ≤ n ∧ Value.int .i64 ((j : Int) + 1) = .int .i64 (j' : Int) ∧ C'.size = n ∧ Hid ((Y.setCell ⟨G, j, none⟩ (.int .u8 ((g j : Nat) : Int))).heap[G]? = some (.cells C' 5 (0, 0))) ∧
      Hid (∀ q, q < j' → C'[q]? = some (.int .u8 ((g q : Nat) : Int))) ∧ Below w.heap.size w (Y.setCell ⟨G, j, none⟩ (.int .u8 ((g j : Nat) : Int)))) ∧ M := by
  refine ⟨⟨j + 1, C.setIfInBounds j (.int .u8 ((g j : Nat) : Int)), by omega, by omega, by go_num, by simp [hC], ?_, ?_, yB.setCell hG _⟩, hM⟩
  · show _ = _
    rw [setCell_eq_setRow Y G j C 5 (0, 0) _ yG]; exact setRow_heap Y G C _ 5 (0, 0) yG
  · intro q hq
    by_cases e : q = j
    · subst e; rw [Array.getElem?_setIfInBounds_self_of_lt (by omega)]
    · rw [Array.getElem?_setIfInBounds_ne (by omega)]; exact hQ q (by omega)

/-- 'copy' of a row of bytes to the head of a row of the call's own. -/
theorem copy_bytes {w w3 : World} {G l c d : Nat} {a : Option Addr} {f : Nat → Nat} {cur : Array Value} (ra : RowF w3 a f l) (hg : w3.heap[G]? = some (.cells cur 5 (0, 0))) (hcs : cur.size = d) (hld : l ≤ d) (hG : w.heap.size ≤ G) (hb : Below w.heap.size w w3) :
    ∃ w4 C, (Builtin.copy_ #[54, 54] 3 #[.slice (some ⟨G, 0, none⟩) d d, .slice a l c]).run Try.prog w3 = .ok (goInt l) w4 ∧ w4.heap[G]? = some (.cells C 5 (0, 0)) ∧ C.size = d ∧ (∀ q, q < l → C[q]? = some (.int .u8 ((f q : Nat) : Int))) ∧ Below w.heap.size w w4 := by
  by_cases h0 : l = 0
  · subst h0
    exact ⟨w3, cur, run_copy_none w3 54 54 3 5 _ _ d d 0 c under32 size5info (by simp), hg, hcs, fun q hq => by omega, hb⟩
  · obtain ⟨ad, rfl, hsrc⟩ := ra.src (by rw [cellsOf_length]; omega)
    have hr := run_copy_row (P := Try.prog) w3 54 54 3 5 G 0 d d ad l c cur 5 (cellsOf f l) under32 size5info hg (by rw [cellsOf_length]; exact (Nat.min_eq_left hld).symm) hsrc (by rw [cellsOf_length]; omega) (cellsOf_one f l)
    rw [cellsOf_length] at hr
    refine ⟨_, _, hr, setRow_heap w3 G cur _ 5 (0, 0) hg, ?_, fun q hq => ?_, below_setRow hb hG _⟩
    · simp [cellsOf_length, hcs]; omega
    · simp only [List.take_zero, List.nil_append, List.getElem?_toArray]
      rw [List.getElem?_append_left (by rw [cellsOf_length]; exact hq)]
      exact cellsOf_at f l q hq

/-- What Roomy's list holds. -/
def roomF (f : Nat → Nat) (l M : Nat) (q : Nat) : Nat := if q < l then f q else M

end Go.Proofs.Ytmhhegkpkncebaa
