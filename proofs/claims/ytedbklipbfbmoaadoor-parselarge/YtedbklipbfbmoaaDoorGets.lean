/-
  A get's keys, plain; texts that came in; a list and a line that grow together.
-/
import Derived.Test.YtedbklipbfbmoaaDoorReqs
namespace Go.Proofs.YtedbklipbfbmoaaDoor
open Go.RowKit

def getW : B := [103, 101, 116]
theorem st_key (x : B) (r : Rq) : st 0 x r = ({ r with keys := r.keys ++ [x] }, key x) := rfl
theorem kd_get (i : Nat) : kd [0] i = 0 := by
  unfold kd
  rw [show min i ([0].length - 1) = 0 from by simp]; rfl
theorem rd_keys : ∀ (l : List B) (i : Nat) (r : Rq), (∀ x ∈ l, key x = true) → rd [0] i l r = some { r with keys := r.keys ++ l }
  | [], i, r, _ => by simp [rd]
  | x :: l, i, r, h => by
    rw [rd, kd_get, st_key, if_pos (h x (by simp)), rd_keys l (i + 1) _ (fun y hy => h y (by simp [hy]))]
    simp
theorem rd_bad : ∀ (l : List B) (i : Nat) (r : Rq) (x : B), key x = false → rd [0] i (l ++ [x]) r = none
  | [], i, r, x, hx => by
    rw [List.nil_append, rd, kd_get, st_key, if_neg (by rw [hx]; simp)]
  | y :: l, i, r, x, hx => by
    rw [List.cons_append, rd, kd_get, st_key]
    split
    · exact rd_bad l (i + 1) _ x hx
    · rfl
theorem get_vb : vb getW = 1 := by decide
theorem args_get (l : List B) : args (fm 1) l = l := rfl
theorem get_line {s : B} {l : List B} (hs : split s = getW :: l) (hk : ∀ x ∈ l, key x = true) : line s = if l.length = 0 ∨ 64 < l.length then (Rq.none, 4) else (⟨1, l, 0, 0, 0, 0, 0, false⟩, 0) := by
  unfold line
  rw [hs]
  show lin (vb getW) l = _
  rw [get_vb]
  unfold lin
  rw [if_neg (by decide), args_get]
  by_cases h : l.length = 0 ∨ 64 < l.length
  · rw [if_pos h, if_pos (by show l.length < 1 ∨ 64 < l.length; omega)]
  · rw [if_neg h, if_neg (by show ¬ (l.length < 1 ∨ 64 < l.length); omega)]
    show (match rd [0] 0 l Rq.none with | none => _ | some r => _) = _
    rw [rd_keys l 0 Rq.none hk]
    rfl
theorem get_bad {s : B} {l : List B} {x : B} (hs : split s = getW :: l) (hx : split x = [x]) (hk : key x = false) (hl : l.length < 64) : line (s ++ 32 :: x) = (Rq.none, 1) := by
  unfold line
  rw [split_app, hs, hx]
  show lin (vb getW) (l ++ [x]) = _
  rw [get_vb]
  unfold lin
  rw [if_neg (by decide), args_get, if_neg (by show ¬ ((l ++ [x]).length < 1 ∨ 64 < (l ++ [x]).length); simp; omega)]
  show (match rd [0] 0 (l ++ [x]) Rq.none with | none => _ | some r => _) = _
  rw [rd_bad l 0 Rq.none x hk]
/-- Texts that came in. -/
def StrF (w : World) (a : Option Addr) (T : Nat → ByteArray) (len : Nat) : Prop := len = 0 ∨ ∃ p off, a = some ⟨p, off, none⟩ ∧ ∀ i, i < len → w.cell? ⟨p, off + i, none⟩ = some (.string (T i))
theorem StrF.below {w w' : World} {a : Option Addr} {T : Nat → ByteArray} {len : Nat} (h : StrF w a T len) (b : Below w.heap.size w w') : StrF w' a T len := by
  rcases h with h | ⟨p, off, h1, h2⟩
  · exact .inl h
  · exact .inr ⟨p, off, h1, fun i hi => cell_up b (h2 i hi)⟩
/-- A list of the law's own, on its way. -/
structure Grow (w : World) (wr : World) (l : List B) (a : Option Addr) (n c : Nat) (o : Nat → Nat × Nat) : Prop where
  own : OwnK wr o (1, 0) 1 (.slice a n c) l.length (sc l)
  len : n = l.length
  fr : Fr (· = (1, 0)) o0 o w wr
theorem Grow.below {w wr : World} {l : List B} {a : Option Addr} {n c : Nat} {o : Nat → Nat × Nat} (h : Grow w wr l a n c o) : Below w.heap.size w wr := h.fr.below (Nat.le_refl _) (fun b _ e => by cases e)
theorem Grow.strs {w wr : World} {l : List B} {a : Option Addr} {n c : Nat} {o : Nat → Nat × Nat} (h : Grow w wr l a n c o) : Strs wr (.slice a n c) l := h.own.strs
theorem Grow.up {w wr wr' : World} {l : List B} {a : Option Addr} {n c : Nat} {o : Nat → Nat × Nat} (h : Grow w wr l a n c o) (b : Below wr.heap.size wr wr') : Grow w wr' l a n c o := ⟨h.own.below b, h.len, h.fr.trans (Fr.ofBelow _ _ b)⟩
theorem Grow.start (w : World) : Grow w w [] none 0 0 o0 := ⟨OwnK.nil _ _ _ _, rfl, Fr.refl _ _ _⟩
theorem Grow.step {w wr : World} {l : List B} {a : Option Addr} {n c : Nat} {o : Nat → Nat × Nat} (h : Grow w wr l a n c o) (hn : n < 1000000) (s : ByteArray) :
    ∃ a' c' w' o', (Builtin.append_ #[27, 27] 27 #[.slice a n c, .slice (some ⟨wr.heap.size, 0, none⟩) 1 1]).run Tryd.prog (wr.alloc (.cells #[.string s] 9)) = .ok (.slice a' (n + 1) c') w' ∧ Grow w w' (l ++ [L s]) a' (n + 1) c' o' := by
  obtain ⟨own, len, fr⟩ := h
  subst len
  obtain ⟨a', c', w', o', r, h1, h2⟩ := app_str own (L s) hn
  rw [S_L] at r
  exact ⟨a', c', w', o', r, h1, by simp, fr.trans h2⟩
end Go.Proofs.YtedbklipbfbmoaaDoor
