/-
  The reference's Feed on its way: plain steps.
-/
import Derived.Test.YtedbklipbfbmoaaDoorQSa
import Derived.Test.YtedbklipbfbmoaaDoorPFe
namespace Go.Proofs.YtedbklipbfbmoaaDoor
open Go.RowKit

theorem FdR.up {w : World} {o0 : Nat → Nat × Nat} {x P : Nat} {te : Nat × Nat} {f : Ps × List Ev} {n : Nat} {wr wr' : World} {b : Ps} {R : B} {acc : List Ev} {ev : Value} (h : FdR w o0 x P te f n wr b R acc ev) (bl : Below wr.heap.size wr wr') : FdR w o0 x P te f n wr' b R acc ev := by
  obtain ⟨o, ka, kn, kc, h1, h2, h3⟩ := h.ex
  have F := Fr.ofBelow (fun _ => False) o bl
  exact ⟨⟨o, ka, kn, kc, h1.fr F id id, h2.fr F id id, h3.trans (F.mono (fun _ h => h.elim))⟩, h.bs, h.eq, h.sz⟩
/-- An event that was read, stored in its block. -/
theorem FdR.read {w : World} {o0 o1 : Nat → Nat × Nat} {x P b : Nat} {te : Nat × Nat} {W1 w2 : World} {acc : List Ev} {evv : Value} (hx : x < 7) (hte : te.1 = 7) (E1 : Evs W1 o1 te evv acc) (F1 : Fr (TF x te) o0 o1 w W1) (R1 : Res W1 o1 b) (hb : w.heap.size ≤ b) {b2 : Ps} {R2 : B} {ev : Ev} {E : List Value} (O2 : OutR W1 o1 x P b2 R2 ev E w2) :
    E.length = 18 ∧ (∀ u ∈ E, u.oneCell' = true) ∧ w2.there b 0 E.length ∧ (w2.setCells b 0 E).rangeAt b 0 E ∧ ∃ o3 ka kn kc, EvV (w2.setCells b 0 E) o3 E ev ∧ Evs (w2.setCells b 0 E) o3 te evv acc ∧ IsRf (w2.setCells b 0 E) o3 x P b2 R2 ka kn kc ∧ Fr (TF x te) o0 o3 w (w2.setCells b 0 E) := by
  obtain ⟨o2, ka, kn, kc, hE, hI, f⟩ := O2
  have R2 := R1.fr f (tx8 (by omega))
  have g : Fr (· = (8, 8)) o2 o2 w2 (w2.setCells b 0 E) := Fr.sets (T := (· = (8, 8))) R2.mark _ _ _
  refine ⟨hE.len, hE.one, by rw [hE.len]; exact R2.th, World.rangeAt_setCells_same _ _ _ _ (by rw [hE.len]; exact R2.th), o2, ka, kn, kc, hE.fr g (fun e => by cases e), (E1.fr f (fun h => ?_) (tx9 (by omega))).fr g (fun e => ?_) (fun e => by cases e), hI.fr g (fun e => by injection e with e _; omega) (fun e => by cases e), (F1.trans (f.mono (fun _ h => .inl h))).setsNew hb _ _⟩
  · have : te.1 = x := h
    omega
  · rw [e] at hte; cases hte
/-- The last step: nothing more. -/
theorem FdR.stop {w : World} {o0 : Nat → Nat × Nat} {x P : Nat} {te : Nat × Nat} {b b' : Ps} {R R' : B} {ev : Ev} {acc : List Ev} {f : Ps × List Ev} (hf : f = ((feed b R).1, acc ++ (feed b R).2)) (hr : Rel b R b' R' ev false) {W : World} {o : Nat → Nat × Nat} {ka : Option Addr} {kn kc : Nat} {v : Value} (h1 : Evs W o te v (acc ++ evs ev)) (h2 : IsRf W o x P b' R' ka kn kc) (h3 : Fr (TF x te) o0 o w W) : FOutR w o0 x P te f v W := by
  obtain ⟨hb, h⟩ := hr
  rcases h with ⟨e, _⟩ | ⟨_, e⟩
  · cases e
  · rw [hf, e]
    refine ⟨o, ka, kn, kc, h1, ?_, h3⟩
    show IsRf W o x P (bse { b' with left := R' }) R' ka kn kc
    rw [show bse { b' with left := R' } = b' by
      have := hb.1
      unfold bse
      cases b'
      simp_all]
    exact h2
/-- A step more: what is told so far, and where it goes on. -/
theorem FdR.go {w : World} {o0 : Nat → Nat × Nat} {x P : Nat} {te : Nat × Nat} {b b' : Ps} {R R' : B} {ev : Ev} {acc : List Ev} {f : Ps × List Ev} {n : Nat} (hn : R.length ≤ n) (hf : f = ((feed b R).1, acc ++ (feed b R).2)) (hr : Rel b R b' R' ev true) {W : World} {o : Nat → Nat × Nat} {ka : Option Addr} {kn kc : Nat} {v : Value} (h1 : Evs W o te v (acc ++ evs ev)) (h2 : IsRf W o x P b' R' ka kn kc) (h3 : Fr (TF x te) o0 o w W) : FdR w o0 x P te f n W b' R' (acc ++ evs ev) v ∧ 2 * R'.length + st1 b' < 2 * R.length + st1 b ∧ (b'.st = 4 → R' = []) := by
  obtain ⟨hb, h⟩ := hr
  rcases h with ⟨_, e, hm, hz⟩ | ⟨e, _⟩
  · refine ⟨⟨⟨o, ka, kn, kc, h1, h2, h3⟩, hb, ?_, ?_⟩, hm, hz⟩
    · rw [hf, e, thn]
      simp
    · have : st1 b ≤ 1 := by unfold st1; split <;> omega
      omega
  · cases e
end Go.Proofs.YtedbklipbfbmoaaDoor
