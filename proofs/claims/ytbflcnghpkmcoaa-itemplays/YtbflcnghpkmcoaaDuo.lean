/-
  THE STORE AND THE REFERENCE'S SIDE BY SIDE, each with marks of its own.
-/
import Derived.Test.YtbflcnghpkmcoaaRPut
import Derived.Test.YtbflcnghpkmcoaaAsks
namespace Go.Proofs.Ytbflcnghpkmcoaa
open Go.RowKit

def mx (o : Nat → Nat × Nat) (w : World) : Nat → Nat × Nat := mix o w.heap.size (0, 0)
theorem mx_old {o : Nat → Nat × Nat} {w : World} {b : Nat} (h : b < w.heap.size) : mx o w b = o b := if_pos h
theorem mx_new {o : Nat → Nat × Nat} {w : World} {b : Nat} (h : ¬ b < w.heap.size) : mx o w b = (0, 0) := if_neg h
structure Duo (w : World) (X Y : Nat) (z zr : Sp) (wr : World) (o o' : Nat → Nat × Nat) : Prop where
  st : IsSt wr o X z
  rf : IsRef wr o' Y zr
  dj : ∀ b, b < wr.heap.size → o b = (0, 0) ∨ o' b = (0, 0)
  lo : ∀ b, b < w.heap.size → o b = (0, 0) ∧ o' b = (0, 0)
  bl : Below w.heap.size w wr
/-- What turns under one's marks, under the other's. -/
theorem fr_other {T : Nat × Nat → Prop} {o o' o1 : Nat → Nat × Nat} {wr w1 : World} (dj : ∀ b, b < wr.heap.size → o b = (0, 0) ∨ o' b = (0, 0)) (hT : ¬ T (0, 0)) (f : Fr T o o1 wr w1) : Fr (fun t => t = (0, 0)) o' (mx o' wr) wr w1 :=
  ⟨f.os, f.tape, f.output, f.size, fun b hb => mx_old hb, fun b hb hn => f.block b hb (by
    rcases dj b hb with h | h
    · rw [h]; exact hT
    · exact absurd h hn)⟩
theorem low_of {T : Nat × Nat → Prop} {w wr w1 : World} {o o1 : Nat → Nat × Nat} (hb : Below w.heap.size w wr) (lo : ∀ b, b < w.heap.size → o b = (0, 0)) (hT : ¬ T (0, 0)) (f : Fr T o o1 wr w1) : Below w.heap.size w w1 :=
  hb.trans (f.below hb.size (fun b h => by rw [lo b h]; exact hT))
theorem nS00 : ∀ t, TS t → ¬ (t = (0, 0)) := fun t h e => by rw [e] at h; exact nT0 h
theorem nR00 : ∀ t, TR t → ¬ (t = (0, 0)) := fun t h e => by rw [e] at h; exact nR0 h
theorem Duo.prog {w : World} {X Y : Nat} {z zr z' : Sp} {wr w1 : World} {o o' o1 : Nat → Nat × Nat} {T : Nat × Nat → Prop} (h : Duo w X Y z zr wr o o') (hT : ¬ T (0, 0)) (f : Fr T o o1 wr w1) (I : IsSt w1 o1 X z') : Duo w X Y z' zr w1 o1 (mx o' wr) := by
  refine ⟨I, h.rf.fr (fr_other h.dj hT f) nR00, fun b hb => ?_, fun b hb => ?_, low_of h.bl (fun b hb => (h.lo b hb).1) hT f⟩
  · by_cases e : b < wr.heap.size
    · rw [mx_old e, f.lab b e]; exact h.dj b e
    · exact .inr (mx_new e)
  · have e : b < wr.heap.size := Nat.lt_of_lt_of_le hb h.bl.size
    rw [mx_old e, f.lab b e]; exact h.lo b hb
theorem Duo.refr {w : World} {X Y : Nat} {z zr z' : Sp} {wr w1 : World} {o o' o1 : Nat → Nat × Nat} {T : Nat × Nat → Prop} (h : Duo w X Y z zr wr o o') (hT : ¬ T (0, 0)) (f : Fr T o' o1 wr w1) (I : IsRef w1 o1 Y z') : Duo w X Y z z' w1 (mx o wr) o1 := by
  have dj' : ∀ b, b < wr.heap.size → o' b = (0, 0) ∨ o b = (0, 0) := fun b hb => (h.dj b hb).symm
  refine ⟨h.st.fr (fr_other dj' hT f) nS00, I, fun b hb => ?_, fun b hb => ?_, low_of h.bl (fun b hb => (h.lo b hb).2) hT f⟩
  · by_cases e : b < wr.heap.size
    · rw [mx_old e, f.lab b e]; exact h.dj b e
    · exact .inl (mx_new e)
  · have e : b < wr.heap.size := Nat.lt_of_lt_of_le hb h.bl.size
    rw [mx_old e, f.lab b e]; exact h.lo b hb
theorem fr_mx {o : Nat → Nat × Nat} {wr w1 : World} (b : Below wr.heap.size wr w1) : Fr (fun _ => False) o (mx o wr) wr w1 := ⟨b.os, b.tape, b.output, b.size, fun _ hb => mx_old hb, fun c hb _ => b.block c hb⟩
theorem Duo.below {w : World} {X Y : Nat} {z zr : Sp} {wr w1 : World} {o o' : Nat → Nat × Nat} (h : Duo w X Y z zr wr o o') (b : Below wr.heap.size wr w1) : Duo w X Y z zr w1 (mx o wr) (mx o' wr) := by
  refine ⟨h.st.fr (fr_mx b) (fun _ _ x => x), h.rf.fr (fr_mx b) (fun _ _ x => x), fun c hc => ?_, fun c hc => ?_, h.bl.trans (b.mono h.bl.size)⟩
  · by_cases e : c < wr.heap.size
    · rw [mx_old e, mx_old e]; exact h.dj c e
    · exact .inl (mx_new e)
  · have e : c < wr.heap.size := Nat.lt_of_lt_of_le hc h.bl.size
    rw [mx_old e, mx_old e]; exact h.lo c hc
/-- The two, and a call whose block bears no mark. -/
structure DuoA (w : World) (X Y : Nat) (z zr : Sp) (A : Nat) (q : AskD) (wr : World) (o o' : Nat → Nat × Nat) : Prop where
  duo : Duo w X Y z zr wr o o'
  ask : AskAt wr A 0 q
  oA : o A = (0, 0) ∧ o' A = (0, 0)
theorem AskAt.frr {T : Nat × Nat → Prop} {w w' : World} {o o' : Nat → Nat × Nat} {p b : Nat} {q : AskD} (h : AskAt w p b q) (f : Fr T o o' w w') (hT : ¬ T (o p)) : AskAt w' p b q := ⟨f.cell h.1 hT, f.cell h.2.1 hT, f.cell h.2.2.1 hT, f.cell h.2.2.2.1 hT, f.cell h.2.2.2.2 hT⟩
theorem AskAt.lt {w : World} {p b : Nat} {q : AskD} (h : AskAt w p b q) : p < w.heap.size := World.block_lt_of_cell? _ _ h.1
theorem DuoA.prog {w : World} {X Y A : Nat} {q : AskD} {z zr z' : Sp} {wr w1 : World} {o o' o1 : Nat → Nat × Nat} {T : Nat × Nat → Prop} (h : DuoA w X Y z zr A q wr o o') (hT : ¬ T (0, 0)) (f : Fr T o o1 wr w1) (I : IsSt w1 o1 X z') : DuoA w X Y z' zr A q w1 o1 (mx o' wr) :=
  ⟨h.duo.prog hT f I, h.ask.frr f (by rw [h.oA.1]; exact hT), (f.lab A h.ask.lt).trans h.oA.1, (mx_old h.ask.lt).trans h.oA.2⟩
theorem DuoA.refr {w : World} {X Y A : Nat} {q : AskD} {z zr z' : Sp} {wr w1 : World} {o o' o1 : Nat → Nat × Nat} {T : Nat × Nat → Prop} (h : DuoA w X Y z zr A q wr o o') (hT : ¬ T (0, 0)) (f : Fr T o' o1 wr w1) (I : IsRef w1 o1 Y z') : DuoA w X Y z z' A q w1 (mx o wr) o1 :=
  ⟨h.duo.refr hT f I, h.ask.frr f (by rw [h.oA.2]; exact hT), (mx_old h.ask.lt).trans h.oA.1, (f.lab A h.ask.lt).trans h.oA.2⟩
theorem DuoA.below {w : World} {X Y A : Nat} {q : AskD} {z zr : Sp} {wr w1 : World} {o o' : Nat → Nat × Nat} (h : DuoA w X Y z zr A q wr o o') (b : Below wr.heap.size wr w1) : DuoA w X Y z zr A q w1 (mx o wr) (mx o' wr) :=
  ⟨h.duo.below b, h.ask.below b, (mx_old h.ask.lt).trans h.oA.1, (mx_old h.ask.lt).trans h.oA.2⟩
/-- A list with one's marks stays while the other one turns. -/
theorem OwnK.over {T : Nat × Nat → Prop} {o o' o1 : Nat → Nat × Nat} {wr w1 : World} {k n : Nat} {v : Value} {cs : List Value} {t : Nat × Nat} (h : OwnK wr o t k v n cs) (ht : t ≠ (0, 0)) (dj : ∀ b, b < wr.heap.size → o b = (0, 0) ∨ o' b = (0, 0)) (hT : ¬ T (0, 0)) (f : Fr T o' o1 wr w1) : OwnK w1 (mx o wr) t k v n cs :=
  h.fr (fr_other (fun b hb => (dj b hb).symm) hT f) ht
end Go.Proofs.Ytbflcnghpkmcoaa
