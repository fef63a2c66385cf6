/-
  A REQUEST IN MEMORY; reading its arguments, on the way.
-/
import Derived.Test.YtedbklipbfbmoaaDoorHush
import Derived.Deep.MidRow
namespace Go.Proofs.YtedbklipbfbmoaaDoor
open Go.RowKit

/-- A request's cells, its keys in the slice kv. -/
def Rq.cs (r : Rq) (kv : Value) : List Value := [.int .i64 ((r.verb : Nat) : Int), kv, .int .i64 r.flags, .int .i64 r.exp, .int .i64 r.bytes, .int .i64 r.cas, .int .u64 ((r.delta : Nat) : Int), .bool r.quiet, .string ⟨#[]⟩]
def Rq.v (r : Rq) (kv : Value) : Value := .agg (r.cs kv).toArray
theorem cs_one (r : Rq) (a : Option Addr) (n c : Nat) : ∀ u ∈ r.cs (.slice a n c), u.oneCell' = true := fun u hu => by
  simp only [Rq.cs, List.mem_cons, List.not_mem_nil, or_false] at hu
  rcases hu with rfl | rfl | rfl | rfl | rfl | rfl | rfl | rfl | rfl <;> rfl
theorem range_set {w : World} {R : Nat} {cs : List Value} (h : w.rangeAt R 0 cs) {i : Nat} {u : Value} (hi : i < cs.length) : (w.setCell ⟨R, i, none⟩ u).rangeAt R 0 (cs.set i u) := fun j v hv => by
  rw [Nat.zero_add]
  have hjl : j < cs.length := by have := (List.getElem?_eq_some_iff.1 hv).1; rwa [List.length_set] at this
  by_cases e : i = j
  · subst e
    rw [List.getElem?_set_self hi] at hv
    cases hv
    have := h i _ (List.getElem?_eq_getElem hi)
    rw [Nat.zero_add] at this
    exact World.cell?_setCell_same _ _ _ this
  · rw [List.getElem?_set_ne e] at hv
    have := h j v hv
    rw [Nat.zero_add] at this
    rw [World.cell?_setCell_other _ _ _ _ (fun h => e (by injection h))]; exact this
/-- Marks that reading may turn. -/
def TR (t : Nat × Nat) : Prop := t = (1, 0) ∨ t = (2, 0)
/-- A request that is being read, at block R. -/
structure Rd (w2 : World) (o2 : Nat → Nat × Nat) (wr : World) (o : Nat → Nat × Nat) (R : Nat) (r : Rq) (a : Option Addr) (n c : Nat) : Prop where
  own : OwnK wr o (1, 0) 1 (.slice a n c) r.keys.length (sc r.keys)
  len : n = r.keys.length
  mark : o R = (2, 0)
  lt : R < wr.heap.size
  cells : wr.rangeAt R 0 (r.cs (.slice a n c))
  fz : ∀ j, wr.frozen? ⟨R, j, none⟩ = false
  fr : Fr TR o2 o w2 wr
/-- A field that is no key stored. -/
theorem Rd.set {w2 wr : World} {o2 o : Nat → Nat × Nat} {R : Nat} {r r' : Rq} {a : Option Addr} {n c : Nat} (h : Rd w2 o2 wr o R r a n c) (i : Nat) (u : Value) (hi : i < 9) (hk : r'.keys = r.keys) (e : (r.cs (.slice a n c)).set i u = r'.cs (.slice a n c)) : Rd w2 o2 (wr.setCell ⟨R, i, none⟩ u) o R r' a n c := by
  have fs : Fr (· = (2, 0)) o o wr (wr.setCell ⟨R, i, none⟩ u) := Fr.set (a := ⟨R, i, none⟩) h.mark _
  refine ⟨by rw [hk]; exact h.own.fr fs (fun e => by cases e), by rw [hk]; exact h.len, h.mark, by simpa [World.setCell] using h.lt, ?_, fun j => by rw [World.frozen?_setCell]; exact h.fz j, h.fr.trans (fs.mono (fun t e => .inr e))⟩
  have := range_set h.cells (i := i) (u := u) hi
  rwa [e] at this
/-- A key more. -/
theorem Rd.key {w2 wr : World} {o2 o : Nat → Nat × Nat} {R : Nat} {r : Rq} {a : Option Addr} {n c : Nat} (h : Rd w2 o2 wr o R r a n c) (hn : n < 1000000) (x : B) :
    ∃ a' c' w' o', (Builtin.append_ #[27, 27] 27 #[.slice a n c, .slice (some ⟨wr.heap.size, 0, none⟩) 1 1]).run Tryd.prog (wr.alloc (.cells #[.string (S x)] 9)) = .ok (.slice a' (n + 1) c') w' ∧
      w'.cell? ⟨R, 1, none⟩ = some (.slice a n c) ∧ w'.frozen? ⟨R, 1, none⟩ = false ∧
      Rd w2 o2 (w'.setCell ⟨R, 1, none⟩ (.slice a' (n + 1) c')) o' R { r with keys := r.keys ++ [x] } a' (n + 1) c' := by
  obtain ⟨own, len, mark, lt, cells, fz, fr⟩ := h
  subst len
  obtain ⟨a', c', w', o', hr, h1, h2⟩ := app_str own x hn
  have hR : ¬ (o R = (1, 0)) := by rw [mark]; intro e; cases e
  have mk' : o' R = (2, 0) := (h2.lab R lt).trans mark
  have fs : Fr (· = (2, 0)) o' o' w' (w'.setCell ⟨R, 1, none⟩ (.slice a' (r.keys.length + 1) c')) := Fr.set (a := ⟨R, 1, none⟩) mk' _
  have cl : w'.rangeAt R 0 (r.cs (.slice a r.keys.length c)) := fun j v hv => h2.cell (cells j v hv) hR
  have fz' : ∀ j, w'.frozen? ⟨R, j, none⟩ = false := fun j => (h2.frozen lt hR).trans (fz j)
  refine ⟨a', c', w', o', hr, ?_, fz' 1, h1.fr fs (fun e => by cases e), by simp, mk', ?_, range_set cl (i := 1) (by simp [Rq.cs]), fun j => by rw [World.frozen?_setCell]; exact fz' j, (fr.trans (h2.mono (fun t e => .inl e))).trans (fs.mono (fun t e => .inr e))⟩
  · have := cl 1 (.slice a r.keys.length c) rfl
    rwa [Nat.zero_add] at this
  · have := h2.size; simp [World.setCell]; omega
theorem rd_nil (ks : List Nat) (i : Nat) (r : Rq) : rd ks i [] r = some r := rfl
theorem rd_yes {ks : List Nat} {j : Nat} {l : List B} {x : B} {r : Rq} (hx : l[j]? = some x) (h : (st (kd ks j) x r).2 = true) : rd ks j (l.drop j) r = rd ks (j + 1) (l.drop (j + 1)) (st (kd ks j) x r).1 := by
  obtain ⟨h1, h2⟩ := List.getElem?_eq_some_iff.1 hx
  rw [List.drop_eq_getElem_cons h1, h2, rd, if_pos h]
theorem rd_no {ks : List Nat} {j : Nat} {l : List B} {x : B} {r : Rq} (hx : l[j]? = some x) (h : (st (kd ks j) x r).2 = false) : rd ks j (l.drop j) r = none := by
  obtain ⟨h1, h2⟩ := List.getElem?_eq_some_iff.1 hx
  rw [List.drop_eq_getElem_cons h1, h2, rd, if_neg (by rw [h]; decide)]
end Go.Proofs.YtedbklipbfbmoaaDoor
