/-
  A VIEW, plainly; where the program's and the reference's lie.
-/
import Derived.Test.YthoambgkcoeffaaMem
namespace Go.Proofs.Ythoambgkcoeffaa
open Go.RowKit

theorem hid {P : Prop} (h : P) : Hid P := h
theorem under31 : Try.prog.underlying 31 = some (.slice 3) := by kernel_rfl
theorem under40 : Try.prog.underlying 40 = some (.slice 44) := by kernel_rfl
theorem info3 : (Try.prog.info? 3).map (fun i => (i.zero, i.size, i.bytes)) = some (some (.int .i64 0), 1, 8) := by kernel_rfl
theorem info44 : (Try.prog.info? 44).map (fun i => (i.zero, i.size, i.bytes)) = some (some (.agg #[.int .i64 0, .int .i64 0]), 2, 16) := by kernel_rfl
/-- How each slot stands: its state, its incarnation. -/
abbrev Vs := List (Int × Int)
/-- How a slot stands; of none, too. -/
def Vs.at (l : Vs) (i : Int) : Int × Int := if 0 ≤ i ∧ i < l.length then l.getD i.toNat (0, 0) else (0, 0)
/-- What an event makes of a slot. -/
def stp (p : Int × Int) (e : Int) : Option (Int × Int) :=
  if e = 1 then some (0, p.2 + 1) else if e = 2 then (if p.1 = 0 ∧ p.2 ≠ 0 then some (1, p.2) else none) else if e = 3 then (if p.1 = 1 then some (2, p.2) else none) else none
/-- What an event of a slot makes of a view. -/
def Vs.nxt (l : Vs) (i e : Int) : Bool × Vs :=
  if 0 ≤ i ∧ i < l.length then match stp (l.getD i.toNat (0, 0)) e with | some q => (true, l.set i.toNat q) | none => (false, l) else (false, l)
/-- All in bounds: a state is 0, 1 or 2; no incarnation is more than k. -/
def Vs.ok (l : Vs) (k : Int) : Prop := ∀ p ∈ l, (p.1 = 0 ∨ p.1 = 1 ∨ p.1 = 2) ∧ 0 ≤ p.2 ∧ p.2 ≤ k
theorem Vs.ok.getD {l : Vs} {k : Int} (h : l.ok k) (hk : 0 ≤ k) (i : Nat) : ((l.getD i (0, 0)).1 = 0 ∨ (l.getD i (0, 0)).1 = 1 ∨ (l.getD i (0, 0)).1 = 2) ∧ 0 ≤ (l.getD i (0, 0)).2 ∧ (l.getD i (0, 0)).2 ≤ k := by
  rw [List.getD_eq_getElem?_getD]
  cases e : l[i]? with
  | none => exact ⟨.inl rfl, Int.le_refl _, hk⟩
  | some p => exact h p (List.mem_of_getElem? e)
theorem Vs.ok.mono {l : Vs} {k k' : Int} (h : l.ok k) (hk : k ≤ k') : l.ok k' := fun p hp => ⟨(h p hp).1, (h p hp).2.1, by have := (h p hp).2.2; omega⟩
theorem stp_ok {p q : Int × Int} {e k : Int} (hp : (p.1 = 0 ∨ p.1 = 1 ∨ p.1 = 2) ∧ 0 ≤ p.2 ∧ p.2 ≤ k) (h : stp p e = some q) : (q.1 = 0 ∨ q.1 = 1 ∨ q.1 = 2) ∧ 0 ≤ q.2 ∧ q.2 ≤ k + 1 := by
  unfold stp at h
  split at h
  · injection h with h; subst h; exact ⟨.inl rfl, by show 0 ≤ p.2 + 1; omega, by show p.2 + 1 ≤ k + 1; omega⟩
  · split at h
    · split at h
      · injection h with h; subst h; exact ⟨.inr (.inl rfl), hp.2.1, by show p.2 ≤ k + 1; omega⟩
      · cases h
    · split at h
      · split at h
        · injection h with h; subst h; exact ⟨.inr (.inr rfl), hp.2.1, by show p.2 ≤ k + 1; omega⟩
        · cases h
      · cases h
theorem Vs.nxt_len (l : Vs) (i e : Int) : (l.nxt i e).2.length = l.length := by
  unfold Vs.nxt
  split
  · cases stp (l.getD i.toNat (0, 0)) e with
    | some q => exact List.length_set
    | none => rfl
  · rfl
theorem Vs.nxt_ok {l : Vs} {k : Int} (h : l.ok k) (hk : 0 ≤ k) (i e : Int) : (l.nxt i e).2.ok (k + 1) := by
  unfold Vs.nxt
  split
  · cases hs : stp (l.getD i.toNat (0, 0)) e with
    | some q =>
      intro p hp
      rcases List.mem_or_eq_of_mem_set hp with h1 | h1
      · exact h.mono (by omega) p h1
      · rw [h1]; exact stp_ok (h.getD hk _) hs
    | none => exact h.mono (by omega)
  · exact h.mono (by omega)
theorem Vs.out {l : Vs} {i : Int} (h : ¬ (0 ≤ i ∧ i < l.length)) (e : Int) : l.nxt i e = (false, l) := if_neg h
theorem Vs.no {l : Vs} {i : Nat} (hi : i < l.length) {e : Int} (h : stp (l.getD i (0, 0)) e = none) : l.nxt (i : Int) e = (false, l) := by
  unfold Vs.nxt; rw [if_pos (by omega), Int.toNat_natCast, h]
theorem Vs.yes {l : Vs} {i : Nat} (hi : i < l.length) {e : Int} {q : Int × Int} (h : stp (l.getD i (0, 0)) e = some q) : l.nxt (i : Int) e = (true, l.set i q) := by
  unfold Vs.nxt; rw [if_pos (by omega), Int.toNat_natCast, h]

/-- As cells. -/
def cv (l : Vs) : List Value := l.flatMap fun p => [.int .i64 p.1, .int .i64 p.2]
theorem cv_length (l : Vs) : (cv l).length = l.length * 2 := by
  induction l with
  | nil => rfl
  | cons p l ih => show (cv l).length + 1 + 1 = (l.length + 1) * 2; omega
theorem cv_one (l : Vs) : ∀ u ∈ cv l, u.oneCell' = true := by
  intro u hu
  obtain ⟨p, _, h⟩ := List.mem_flatMap.1 hu
  simp at h
  rcases h with rfl | rfl <;> rfl
theorem cv_at (l : Vs) (i : Nat) (h : i < l.length) : (cv l)[i * 2]? = some (.int .i64 (l.getD i (0, 0)).1) ∧ (cv l)[i * 2 + 1]? = some (.int .i64 (l.getD i (0, 0)).2) := by
  induction l generalizing i with
  | nil => cases h
  | cons p l ih =>
    cases i with
    | zero => exact ⟨rfl, rfl⟩
    | succ i =>
      have := ih i (by simpa using h)
      rw [show (i + 1) * 2 = i * 2 + 1 + 1 by omega]
      exact this
theorem cv_set (l : Vs) (i : Nat) (q : Int × Int) : ((cv l).set (i * 2) (.int .i64 q.1)).set (i * 2 + 1) (.int .i64 q.2) = cv (l.set i q) := by
  induction l generalizing i with
  | nil => rfl
  | cons p l ih =>
    cases i with
    | zero => rfl
    | succ i =>
      rw [show (i + 1) * 2 = i * 2 + 1 + 1 by omega]
      show _ :: _ :: _ = _ :: _ :: _
      congr 2
      exact ih i
theorem set_self {α : Type} (l : List α) (j : Nat) (u : α) (h : l[j]? = some u) : l.set j u = l := by
  apply List.ext_getElem?
  intro k
  rw [List.getElem?_set]
  split
  · next e =>
    subst e
    rw [if_pos (List.getElem?_eq_some_iff.1 h).1, h]
  · rfl
theorem cv_set0 (l : Vs) (i : Nat) (h : i < l.length) (a : Int) : (cv l).set (i * 2) (.int .i64 a) = cv (l.set i (a, (l.getD i (0, 0)).2)) := by
  rw [← cv_set]
  refine (set_self _ _ _ ?_).symm
  rw [List.getElem?_set_ne (by omega)]
  exact (cv_at l i h).2
/-- Numbers as cells. -/
def ic (l : List Int) : List Value := l.map (Value.int .i64)
theorem ic_length (l : List Int) : (ic l).length = l.length := by simp [ic]
theorem ic_one (l : List Int) : ∀ u ∈ ic l, u.oneCell' = true := fun u hu => by obtain ⟨k, _, rfl⟩ := List.mem_map.1 hu; rfl

theorem OwnK.op {w : World} {o : Nat → Nat × Nat} {t : Nat × Nat} {k n g c : Nat} {cs : List Value} (h : OwnK w o t k (.slice (some ⟨g, 0, none⟩) n c) n cs) : o g = t ∧ g < w.heap.size ∧ n ≤ c ∧ (∀ j u, cs[j]? = some u → w.cell? ⟨g, j, none⟩ = some u) ∧ ∀ j, j < c * k → (w.cell? ⟨g, j, none⟩).isSome = true ∧ w.frozen? ⟨g, j, none⟩ = false := by
  rcases h.2.2 with ⟨e, _⟩ | ⟨g', c', e, h1, h2, h3, h4, h5, h6⟩
  · cases e
  · injection e with e1 e2 e3
    injection e1 with e1
    injection e1 with e1
    subst e1 e3
    exact ⟨h1, h2, h3, h5, h6⟩
/-- The program's view. -/
structure IsG (w : World) (o : Nat → Nat × Nat) (X : Nat) (l : Vs) (g : Nat) : Prop where
  oX : o X = (10, 0)
  c : w.cell? ⟨X, 0, none⟩ = some (.slice (some ⟨g, 0, none⟩) l.length l.length)
  own : OwnK w o (10, 1) 2 (.slice (some ⟨g, 0, none⟩) l.length l.length) l.length (cv l)
  few : l.length ≤ 12
def IsV (w : World) (o : Nat → Nat × Nat) (X : Nat) (l : Vs) : Prop := ∃ g, IsG w o X l g
theorem IsG.fr {T : Nat × Nat → Prop} {w w' : World} {o o' : Nat → Nat × Nat} {X : Nat} {l : Vs} {g : Nat} (h : IsG w o X l g) (f : Fr T o o' w w') (h0 : ¬ T (10, 0)) (h1 : ¬ T (10, 1)) : IsG w' o' X l g :=
  ⟨(f.lab X (World.block_lt_of_cell? _ _ h.c)).trans h.oX, f.cell h.c (by rw [h.oX]; exact h0), h.own.fr f h1, h.few⟩
theorem IsV.fr {T : Nat × Nat → Prop} {w w' : World} {o o' : Nat → Nat × Nat} {X : Nat} {l : Vs} (h : IsV w o X l) (f : Fr T o o' w w') (h0 : ¬ T (10, 0)) (h1 : ¬ T (10, 1)) : IsV w' o' X l := by
  obtain ⟨g, h⟩ := h
  exact ⟨g, h.fr f h0 h1⟩
theorem IsV.below {w w' : World} {o : Nat → Nat × Nat} {X : Nat} {l : Vs} (h : IsV w o X l) (b : Below w.heap.size w w') : IsV w' o X l := h.fr (Fr.ofBelow (fun _ => False) o b) id id
theorem IsG.at {w : World} {o : Nat → Nat × Nat} {X : Nat} {l : Vs} {g : Nat} (h : IsG w o X l g) {i : Nat} (hi : i < l.length) : w.cell? ⟨g, i * 2, none⟩ = some (.int .i64 (l.getD i (0, 0)).1) ∧ w.cell? ⟨g, i * 2 + 1, none⟩ = some (.int .i64 (l.getD i (0, 0)).2) ∧ w.frozen? ⟨g, i * 2, none⟩ = false ∧ w.frozen? ⟨g, i * 2 + 1, none⟩ = false := by
  obtain ⟨_, _, _, c, z⟩ := h.own.op
  exact ⟨c _ _ (cv_at l i hi).1, c _ _ (cv_at l i hi).2, (z _ (by omega)).2, (z _ (by omega)).2⟩
/-- A state stored. -/
theorem IsG.set0 {w : World} {o : Nat → Nat × Nat} {X : Nat} {l : Vs} {g : Nat} (h : IsG w o X l g) {i : Nat} (hi : i < l.length) (a : Int) : IsG (w.setCell ⟨g, i * 2, none⟩ (.int .i64 a)) o X (l.set i (a, (l.getD i (0, 0)).2)) g ∧ Fr (· = (10, 1)) o o w (w.setCell ⟨g, i * 2, none⟩ (.int .i64 a)) := by
  have hg := h.own.op.1
  have f : Fr (· = (10, 1)) o o w (w.setCell ⟨g, i * 2, none⟩ (.int .i64 a)) := Fr.set (a := ⟨g, i * 2, none⟩) hg _
  refine ⟨⟨h.oX, ?_, ?_, by rw [List.length_set]; exact h.few⟩, f⟩
  · rw [List.length_set]; exact f.cell h.c (by rw [h.oX]; intro e; cases e)
  · rw [List.length_set, ← cv_set0 l i hi]; exact h.own.set (i * 2) _ rfl (by omega)
/-- A state and an incarnation stored. -/
theorem IsG.set1 {w : World} {o : Nat → Nat × Nat} {X : Nat} {l : Vs} {g : Nat} (h : IsG w o X l g) {i : Nat} (hi : i < l.length) (a b : Int) : IsG ((w.setCell ⟨g, i * 2, none⟩ (.int .i64 a)).setCell ⟨g, i * 2 + 1, none⟩ (.int .i64 b)) o X (l.set i (a, b)) g ∧ Fr (· = (10, 1)) o o w ((w.setCell ⟨g, i * 2, none⟩ (.int .i64 a)).setCell ⟨g, i * 2 + 1, none⟩ (.int .i64 b)) := by
  have hg := h.own.op.1
  have f : Fr (· = (10, 1)) o o w ((w.setCell ⟨g, i * 2, none⟩ (.int .i64 a)).setCell ⟨g, i * 2 + 1, none⟩ (.int .i64 b)) := (Fr.set (a := ⟨g, i * 2, none⟩) hg _).trans (Fr.set (a := ⟨g, i * 2 + 1, none⟩) hg _)
  refine ⟨⟨h.oX, ?_, ?_, by rw [List.length_set]; exact h.few⟩, f⟩
  · rw [List.length_set]; exact f.cell h.c (by rw [h.oX]; intro e; cases e)
  · rw [List.length_set, ← cv_set l i (a, b)]
    exact (h.own.set (i * 2) _ rfl (by omega)).set (i * 2 + 1) _ rfl (by omega)
/-- The reference's view. -/
structure IsH (w : World) (o : Nat → Nat × Nat) (Y : Nat) (l : Vs) (g h : Nat) : Prop where
  oY : o Y = (5, 0)
  c0 : w.cell? ⟨Y, 0, none⟩ = some (.slice (some ⟨g, 0, none⟩) l.length l.length)
  c1 : w.cell? ⟨Y, 1, none⟩ = some (.slice (some ⟨h, 0, none⟩) l.length l.length)
  st : OwnK w o (5, 1) 1 (.slice (some ⟨g, 0, none⟩) l.length l.length) l.length (ic (l.map Prod.fst))
  nc : OwnK w o (5, 2) 1 (.slice (some ⟨h, 0, none⟩) l.length l.length) l.length (ic (l.map Prod.snd))
  few : l.length ≤ 12
def IsR (w : World) (o : Nat → Nat × Nat) (Y : Nat) (l : Vs) : Prop := ∃ g h, IsH w o Y l g h
def TR (t : Nat × Nat) : Prop := t = (5, 1) ∨ t = (5, 2)
theorem IsH.fr {T : Nat × Nat → Prop} {w w' : World} {o o' : Nat → Nat × Nat} {Y : Nat} {l : Vs} {g h : Nat} (k : IsH w o Y l g h) (f : Fr T o o' w w') (h0 : ¬ T (5, 0)) (h1 : ¬ T (5, 1)) (h2 : ¬ T (5, 2)) : IsH w' o' Y l g h :=
  ⟨(f.lab Y (World.block_lt_of_cell? _ _ k.c0)).trans k.oY, f.cell k.c0 (by rw [k.oY]; exact h0), f.cell k.c1 (by rw [k.oY]; exact h0), k.st.fr f h1, k.nc.fr f h2, k.few⟩
theorem IsR.fr {T : Nat × Nat → Prop} {w w' : World} {o o' : Nat → Nat × Nat} {Y : Nat} {l : Vs} (k : IsR w o Y l) (f : Fr T o o' w w') (h0 : ¬ T (5, 0)) (h1 : ¬ T (5, 1)) (h2 : ¬ T (5, 2)) : IsR w' o' Y l := by
  obtain ⟨g, h, k⟩ := k
  exact ⟨g, h, k.fr f h0 h1 h2⟩
theorem ic_map (f : Int × Int → Int) (l : Vs) (i : Nat) (h : i < l.length) : (ic (l.map f))[i]? = some (.int .i64 (f (l.getD i (0, 0)))) := by
  unfold ic
  rw [List.getElem?_map, List.getElem?_map, List.getD_eq_getElem?_getD, List.getElem?_eq_getElem h]; rfl
theorem IsH.at {w : World} {o : Nat → Nat × Nat} {Y : Nat} {l : Vs} {g h : Nat} (k : IsH w o Y l g h) {i : Nat} (hi : i < l.length) : w.cell? ⟨g, i, none⟩ = some (.int .i64 (l.getD i (0, 0)).1) ∧ w.cell? ⟨h, i, none⟩ = some (.int .i64 (l.getD i (0, 0)).2) ∧ w.frozen? ⟨g, i, none⟩ = false ∧ w.frozen? ⟨h, i, none⟩ = false := by
  obtain ⟨_, _, _, c, z⟩ := k.st.op
  obtain ⟨_, _, _, d, y⟩ := k.nc.op
  exact ⟨c _ _ (ic_map Prod.fst l i hi), d _ _ (ic_map Prod.snd l i hi), (z _ (by omega)).2, (y _ (by omega)).2⟩
theorem ic_set (f : Int × Int → Int) (l : Vs) (i : Nat) (q : Int × Int) : (ic (l.map f)).set i (.int .i64 (f q)) = ic ((l.set i q).map f) := by
  unfold ic
  rw [List.map_set, List.map_set]
theorem ic_keep (l : Vs) (i : Nat) (h : i < l.length) (a : Int) : ic (l.map Prod.snd) = ic ((l.set i (a, (l.getD i (0, 0)).2)).map Prod.snd) := by
  rw [← ic_set]
  exact (set_self _ _ _ (ic_map Prod.snd l i h)).symm
theorem IsH.set0 {w : World} {o : Nat → Nat × Nat} {Y : Nat} {l : Vs} {g h : Nat} (k : IsH w o Y l g h) {i : Nat} (hi : i < l.length) (a : Int) : IsH (w.setCell ⟨g, i, none⟩ (.int .i64 a)) o Y (l.set i (a, (l.getD i (0, 0)).2)) g h ∧ Fr TR o o w (w.setCell ⟨g, i, none⟩ (.int .i64 a)) := by
  have hg := k.st.op.1
  have f : Fr (· = (5, 1)) o o w (w.setCell ⟨g, i, none⟩ (.int .i64 a)) := Fr.set (a := ⟨g, i, none⟩) hg _
  refine ⟨⟨k.oY, ?_, ?_, ?_, ?_, by rw [List.length_set]; exact k.few⟩, f.mono (fun t e => .inl e)⟩
  · rw [List.length_set]; exact f.cell k.c0 (by rw [k.oY]; intro e; cases e)
  · rw [List.length_set]; exact f.cell k.c1 (by rw [k.oY]; intro e; cases e)
  · rw [List.length_set, ← ic_set Prod.fst]; exact k.st.set i _ rfl (by omega)
  · rw [List.length_set, ← ic_keep l i hi]; exact k.nc.fr f (fun e => by cases e)
theorem IsH.set1 {w : World} {o : Nat → Nat × Nat} {Y : Nat} {l : Vs} {g h : Nat} (k : IsH w o Y l g h) {i : Nat} (hi : i < l.length) (a b : Int) : IsH ((w.setCell ⟨g, i, none⟩ (.int .i64 a)).setCell ⟨h, i, none⟩ (.int .i64 b)) o Y (l.set i (a, b)) g h ∧ Fr TR o o w ((w.setCell ⟨g, i, none⟩ (.int .i64 a)).setCell ⟨h, i, none⟩ (.int .i64 b)) := by
  obtain ⟨k1, f1⟩ := k.set0 hi a
  have hh := k1.nc.op.1
  have f2 : Fr (· = (5, 2)) o o (w.setCell ⟨g, i, none⟩ (.int .i64 a)) ((w.setCell ⟨g, i, none⟩ (.int .i64 a)).setCell ⟨h, i, none⟩ (.int .i64 b)) := Fr.set (a := ⟨h, i, none⟩) hh _
  have e2 : (l.set i (a, (l.getD i (0, 0)).2)).set i (a, b) = l.set i (a, b) := by rw [List.set_set]
  have len : (l.set i (a, (l.getD i (0, 0)).2)).length = l.length := List.length_set
  refine ⟨⟨k.oY, ?_, ?_, ?_, ?_, by rw [List.length_set]; exact k.few⟩, f1.trans (f2.mono (fun t e => .inr e))⟩
  · rw [List.length_set, ← len]; exact f2.cell k1.c0 (by rw [k1.oY]; intro e; cases e)
  · rw [List.length_set, ← len]; exact f2.cell k1.c1 (by rw [k1.oY]; intro e; cases e)
  · have := k1.st.fr f2 (fun e => by cases e)
    rw [← ic_set Prod.fst] at this ⊢
    rw [len] at this
    rw [List.length_set]
    exact this
  · have := k1.nc.set i (.int .i64 b) rfl (by rw [len]; omega)
    rw [ic_set Prod.snd _ i (a, b), e2, len] at this
    rw [List.length_set]
    exact this
end Go.Proofs.Ythoambgkcoeffaa
