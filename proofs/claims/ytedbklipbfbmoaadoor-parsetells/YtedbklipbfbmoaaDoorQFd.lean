/-
  The reference's Feed: books.
-/
import Derived.Test.YtedbklipbfbmoaaDoorQSl
namespace Go.Proofs.YtedbklipbfbmoaaDoor
open Go.RowKit

theorem under42 : Tryd.prog.underlying 42 = some (.slice 44) := by kernel_rfl
theorem info44 : (Tryd.prog.info? 44).map (fun i => (i.zero, i.size, i.bytes)) = some (some (.agg ([.int .i64 0, .slice none 0 0, .int .i64 0, .int .i64 0, .int .i64 0, .int .i64 0, .int .u64 0, .bool false, .string ⟨#[]⟩, .int .i64 0, .slice none 0 0, .bool false, .int .u64 0, .string ⟨#[]⟩, .int .i64 0, .int .i64 0, .int .i64 0, .int .i64 0] : List Value).toArray), 18, 192) := by kernel_rfl
/-- One event more, of the reference's. -/
theorem Evs.app44 {w : World} {o : Nat → Nat × Nat} {te : Nat × Nat} {v : Value} {l : List Ev} (h : Evs w o te v l) (ht : te ≠ (9, 9)) {E : List Value} {ev : Ev} (hE : EvV w o E ev) (hl : l.length < 10000000000) :
    ∃ a c w' o', (Builtin.append_ #[42, 42] 42 #[v, .slice (some ⟨w.heap.size, 0, none⟩) 1 1]).run Tryd.prog (w.alloc (.cells E.toArray 44)) = .ok (.slice a (l.length + 1) c) w' ∧ Evs w' o' te (.slice a (l.length + 1) c) (l ++ [ev]) ∧ Fr (· = te) o o' w w' := by
  obtain ⟨cs, h1, h2, h3⟩ := h.ex
  obtain ⟨v', w', o', hr, O3, F3⟩ := app_one 42 44 _ 192 under42 info44 rfl h2 E hE.len hE.one (by omega) (by omega)
  obtain ⟨a, c, rfl, _⟩ := O3.form
  refine ⟨a, c, w', o', hr, ⟨cs ++ [E], by simp [h1], ?_, fun i E' hi => ?_⟩, F3⟩
  · rw [List.length_append, List.flatten_append]
    simpa using O3
  · have h9 : ¬ ((9, 9) = te) := fun e => ht e.symm
    by_cases hlt : i < cs.length
    · rw [List.getElem?_append_left hlt] at hi
      obtain ⟨ev', h4, h5⟩ := h3 i E' hi
      exact ⟨ev', by rw [List.getElem?_append_left (by omega)]; exact h4, h5.fr F3 h9⟩
    · rw [List.getElem?_append_right (by omega)] at hi
      have hz : i - cs.length = 0 := by
        have := (List.getElem?_eq_some_iff.1 hi).1
        simp at this; omega
      rw [hz] at hi
      simp at hi
      subst hi
      exact ⟨ev, by rw [List.getElem?_append_right (by omega), show i - l.length = 0 by omega]; rfl, hE.fr F3 h9⟩
/-- Where a parser stands, without what is left. -/
def bse (p : Ps) : Ps := { p with left := [] }
theorem feed_base {p : Ps} (h : Okp p) (s : B) : feed p s = feed (bse p) (p.left ++ s) := (feed_go h.2 s).symm
theorem bs_base {p : Ps} (h : Okp p) : Bs (bse p) := by
  refine ⟨rfl, ?_, rfl⟩
  rcases h.1 with ⟨hl, e⟩ | ⟨h3, h8, b0, b1, hl, e⟩ | ⟨k1, k2, e⟩ | e | e
  · rw [e]; exact .inl ⟨by simp [bse], rfl⟩
  · refine .inr (.inl ⟨h3, h8, b0, b1, by simp [bse], ?_⟩)
    rw [e]; rfl
  · rw [e]; exact .inr (.inr (.inl ⟨k1, k2, rfl⟩))
  · rw [e]; exact .inr (.inr (.inr (.inl rfl)))
  · rw [e]; exact .inr (.inr (.inr (.inr rfl)))
/-- What the reference's Feed comes to: f is what was told and where it stands. -/
def FOutR (w : World) (o : Nat → Nat × Nat) (x P : Nat) (te : Nat × Nat) (f : Ps × List Ev) (v : Value) (w' : World) : Prop :=
  ∃ o' ka kn kc, Evs w' o' te v f.2 ∧ IsRf w' o' x P (bse f.1) f.1.left ka kn kc ∧ Fr (TF x te) o o' w w'
/-- The reference's Feed on its way. -/
structure FdR (w : World) (o0 : Nat → Nat × Nat) (x P : Nat) (te : Nat × Nat) (f : Ps × List Ev) (n : Nat) (wr : World) (b : Ps) (R : B) (acc : List Ev) (ev : Value) : Prop where
  ex : ∃ o ka kn kc, Evs wr o te ev acc ∧ IsRf wr o x P b R ka kn kc ∧ Fr (TF x te) o0 o w wr
  bs : Bs b
  eq : f = ((feed b R).1, acc ++ (feed b R).2)
  sz : R.length ≤ n
end Go.Proofs.YtedbklipbfbmoaaDoor
