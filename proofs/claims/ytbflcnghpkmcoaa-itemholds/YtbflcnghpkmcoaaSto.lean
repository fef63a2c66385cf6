/-
  A STORE IN MEMORY: its entries, their links, the spare places; older, newer, endOf.
-/
import Derived.Test.YtbflcnghpkmcoaaItem
import Derived.Test.YtbflcnghpkmcoaaRing
import Derived.Test.YtbflcnghpkmcoaaAlloc
import Derived.Test.YtbflcnghpkmcoaaFree
import Derived.Test.YtbflcnghpkmcoaaNew
import Derived.Test.YtbflcnghpkmcoaaPut
namespace Go.Proofs.Ytbflcnghpkmcoaa
open Go.RowKit

/-- Cells by their numbers. -/
def tabg (g : Nat → Value) (n : Nat) : List Value := (List.range n).map g
theorem tabg_length (g : Nat → Value) (n : Nat) : (tabg g n).length = n := by simp [tabg]
theorem tabg_at (g : Nat → Value) {n q : Nat} (h : q < n) : (tabg g n)[q]? = some (g q) := by simp [tabg, h]
theorem tabg_set (g : Nat → Value) {n q : Nat} (u : Value) (_h : q < n) : (tabg g n).set q u = tabg (upd g q u) n := by
  apply List.ext_getElem?
  intro i
  by_cases hi : i < n
  · rw [tabg_at _ hi]
    by_cases e : q = i
    · subst e; rw [List.getElem?_set_self (by rw [tabg_length]; exact hi), upd_same]
    · rw [List.getElem?_set_ne e, tabg_at _ hi, upd_other _ _ _ (fun x => e x.symm)]
  · rw [List.getElem?_eq_none (by rw [List.length_set, tabg_length]; omega), List.getElem?_eq_none (by rw [tabg_length]; omega)]
/-- A store's own cells lie in block X, its entries in block G. -/
structure MemS (w : World) (o : Nat → Nat × Nat) (X S C G N cap : Nat) (g : Nat → Value) (sv : Value) : Prop where
  oX : o X = (1, 0)
  c0 : w.cell? ⟨X, 0, none⟩ = some (.pointer (some ⟨S, 0, none⟩))
  c1 : w.cell? ⟨X, 1, none⟩ = some (.pointer (some ⟨C, 0, none⟩))
  c2 : w.cell? ⟨X, 2, none⟩ = some (.slice (some ⟨G, 0, none⟩) N cap)
  c3 : w.cell? ⟨X, 3, none⟩ = some sv
  fz : ∀ j, w.frozen? ⟨X, j, none⟩ = false
  en : OwnK w o (1, 1) 8 (.slice (some ⟨G, 0, none⟩) N cap) N (tabg g (N * 8))
  n0 : 0 < N
  n1 : N ≤ 1000000
theorem MemS.lt {w : World} {o : Nat → Nat × Nat} {X S C G N cap : Nat} {g : Nat → Value} {sv : Value} (h : MemS w o X S C G N cap g sv) : X < w.heap.size := World.block_lt_of_cell? _ _ h.c0
theorem MemS.at_ {w : World} {o : Nat → Nat × Nat} {X S C G N cap : Nat} {g : Nat → Value} {sv : Value} (h : MemS w o X S C G N cap g sv) {q : Nat} (hq : q < N * 8) : w.cell? ⟨G, q, none⟩ = some (g q) ∧ w.frozen? ⟨G, q, none⟩ = false := by
  obtain ⟨g', cp, e, h2, h3, h4, h5, h6, h7⟩ := h.en.there h.n0
  injection e with e1 e2 e3
  injection e1 with e1
  injection e1 with e1
  subst e1
  exact ⟨h6 q _ (tabg_at g hq), (h7 q (Nat.lt_of_lt_of_le hq (Nat.mul_le_mul_right _ h4))).2⟩
theorem MemS.oG {w : World} {o : Nat → Nat × Nat} {X S C G N cap : Nat} {g : Nat → Value} {sv : Value} (h : MemS w o X S C G N cap g sv) : o G = (1, 1) ∧ G < w.heap.size ∧ N ≤ cap := by
  obtain ⟨g', cp, e, h2, h3, h4, h5, h6, h7⟩ := h.en.there h.n0
  injection e with e1 e2 e3
  injection e1 with e1
  injection e1 with e1
  subst e1 e3
  exact ⟨h2, h3, h4⟩
theorem MemS.fr {T : Nat × Nat → Prop} {w w' : World} {o o' : Nat → Nat × Nat} {X S C G N cap : Nat} {g : Nat → Value} {sv : Value} (h : MemS w o X S C G N cap g sv) (f : Fr T o o' w w') (h0 : ¬ T (1, 0)) (h1 : ¬ T (1, 1)) : MemS w' o' X S C G N cap g sv := by
  have hX : ¬ T (o X) := by rw [h.oX]; exact h0
  exact ⟨(f.lab X h.lt).trans h.oX, f.cell h.c0 hX, f.cell h.c1 hX, f.cell h.c2 hX, f.cell h.c3 hX, fun j => (f.frozen h.lt hX).trans (h.fz j), h.en.fr f h1, h.n0, h.n1⟩
theorem MemS.below {w w' : World} {o : Nat → Nat × Nat} {X S C G N cap : Nat} {g : Nat → Value} {sv : Value} (h : MemS w o X S C G N cap g sv) (hb : Below w.heap.size w w') : MemS w' o X S C G N cap g sv := h.fr (Fr.ofBelow (fun _ => False) o hb) (fun x => x) (fun x => x)
/-- A cell of the entries stored anew. -/
theorem MemS.set {w : World} {o : Nat → Nat × Nat} {X S C G N cap : Nat} {g : Nat → Value} {sv : Value} (h : MemS w o X S C G N cap g sv) (q : Nat) (u : Value) (hu : u.oneCell' = true) (hq : q < N * 8) : MemS (w.setCell ⟨G, q, none⟩ u) o X S C G N cap (upd g q u) sv := by
  have hne : G ≠ X := fun e => by have h1 := h.oG.1; rw [e, h.oX] at h1; cases h1
  have hc : ∀ j, (w.setCell ⟨G, q, none⟩ u).cell? ⟨X, j, none⟩ = w.cell? ⟨X, j, none⟩ := fun j => World.cell?_setCell_other _ _ _ _ (fun e => hne (by injection e))
  refine ⟨h.oX, (hc 0).trans h.c0, (hc 1).trans h.c1, (hc 2).trans h.c2, (hc 3).trans h.c3, fun j => by rw [World.frozen?_setCell]; exact h.fz j, ?_, h.n0, h.n1⟩
  have := h.en.set q u hu hq
  rw [tabg_set g u hq] at this
  exact this
/-- The links of the entries. -/
structure Links (N : Nat) (g : Nat → Value) (nw od : Nat → Nat → Nat) : Prop where
  rn : ∀ p r, p < N → r < 2 → g (p * 8 + 4 + 2 * r) = .int .i64 ((nw r p : Nat) : Int)
  ro : ∀ p r, p < N → r < 2 → g (p * 8 + 5 + 2 * r) = .int .i64 ((od r p : Nat) : Int)
  bn : ∀ p r, p < N → r < 2 → nw r p < N
  bo : ∀ p r, p < N → r < 2 → od r p < N
theorem endOf_any (c : Int) (h0 : 0 ≤ c) (h1 : c ≤ 1000000) (w : World) : Calls Try.prog 28 #[.int .i64 c] w fun e w' => e = .returned (.int .i64 (c + 1)) ∧ w = w' := by
  go_enter Try.func28, Try.ntmps28
  go_wp2_with fail
  go_ret
  exact ⟨ret_int (by omega), rfl⟩
theorem older_any {X S C G N cap : Nat} {g : Nat → Value} {sv : Value} {nw od : Nat → Nat → Nat} (r p : Nat) (R P : Int) (hR : R = (r : Int)) (hP : P = (p : Int)) (hr : r < 2) (hp : p < N) (w : World) (o : Nat → Nat × Nat) (h : MemS w o X S C G N cap g sv) (k : Links N g nw od) :
    Calls Try.prog 40 #[.pointer (some ⟨X, 0, none⟩), .int .i64 R, .int .i64 P] w fun e w' => e = .returned (.int .i64 ((od r p : Nat) : Int)) ∧ w = w' := by
  have c2 := h.c2
  have n1 := h.n1
  have d := (h.at_ (q := p * 8 + 5 + 2 * r) (by omega)).1
  rw [k.ro p r hp hr] at d
  subst hR hP
  have hp1 : (p : Int) < (N : Int) := by omega
  clear h k
  obtain rfl | rfl : r = 0 ∨ r = 1 := by omega
  · go_enter Try.func40, Try.ntmps40
    go_wp2_with fail
    go_ret
    exact ⟨rfl, rfl⟩
  · go_enter Try.func40, Try.ntmps40
    go_wp2_with fail
    go_ret
    exact ⟨rfl, rfl⟩
theorem newer_any {X S C G N cap : Nat} {g : Nat → Value} {sv : Value} {nw od : Nat → Nat → Nat} (r p : Nat) (R P : Int) (hR : R = (r : Int)) (hP : P = (p : Int)) (hr : r < 2) (hp : p < N) (w : World) (o : Nat → Nat × Nat) (h : MemS w o X S C G N cap g sv) (k : Links N g nw od) :
    Calls Try.prog 55 #[.pointer (some ⟨X, 0, none⟩), .int .i64 R, .int .i64 P] w fun e w' => e = .returned (.int .i64 ((nw r p : Nat) : Int)) ∧ w = w' := by
  have c2 := h.c2
  have n1 := h.n1
  have d := (h.at_ (q := p * 8 + 4 + 2 * r) (by omega)).1
  rw [k.rn p r hp hr] at d
  subst hR hP
  have hp1 : (p : Int) < (N : Int) := by omega
  clear h k
  obtain rfl | rfl : r = 0 ∨ r = 1 := by omega
  · go_enter Try.func55, Try.ntmps55
    go_wp2_with fail
    go_ret
    exact ⟨rfl, rfl⟩
  · go_enter Try.func55, Try.ntmps55
    go_wp2_with fail
    go_ret
    exact ⟨rfl, rfl⟩
end Go.Proofs.Ytbflcnghpkmcoaa
