/-
  RINGS OF PLACES: lists whose members lead one to the next, both ways; taking one out, putting one ahead.
-/
import Derived.Test.YtfinaichajbnkaaGreatDoorSmz
import Derived.Test.YtfinaichajbnkaaGreatDoorRows
import Derived.WalkKit
import Derived.WalkSpells
import Derived.WalkLawsBesides
import Derived.Deep.WholeRow
import Derived.Laws.CopyOwn
import Derived.Deep.QuietTactic
import Derived.BigQuiet
import Derived.OpenShut
import Derived.Laws.BytesArg
import Derived.Deep.Upon
namespace Go.Proofs.YtfinaichajbnkaaGreatDoor

/-- Each leads to the next one, and back. -/
def Lk (nw od : Nat → Nat) : List Nat → Prop
  | [] => True
  | [_] => True
  | a :: b :: t => od a = b ∧ nw b = a ∧ Lk nw od (b :: t)
theorem Lk.tail {nw od : Nat → Nat} {a : Nat} {t : List Nat} (h : Lk nw od (a :: t)) : Lk nw od t := by
  cases t with
  | nil => trivial
  | cons b t => exact h.2.2
theorem Lk.frame {nw od nw' od' : Nat → Nat} : ∀ {l : List Nat}, Lk nw od l → (∀ p ∈ l.dropLast, od' p = od p) → (∀ p ∈ l.tail, nw' p = nw p) → Lk nw' od' l
  | [], _, _, _ => trivial
  | [_], _, _, _ => trivial
  | a :: b :: t, h, h1, h2 => by
    refine ⟨(h1 a (by simp [List.dropLast])).trans h.1, (h2 b (by simp)).trans h.2.1, Lk.frame h.2.2 (fun p hp => h1 p ?_) (fun p hp => h2 p ?_)⟩
    · rw [List.dropLast_cons_of_ne_nil (by simp)]; exact List.mem_cons_of_mem _ hp
    · exact List.mem_cons_of_mem _ hp
theorem Lk.split {nw od : Nat → Nat} : ∀ {u : List Nat} {a : Nat} {v : List Nat}, Lk nw od (u ++ a :: v) → Lk nw od (u ++ [a]) ∧ Lk nw od (a :: v)
  | [], _, _, h => ⟨trivial, h⟩
  | [_], _, _, h => ⟨⟨h.1, h.2.1, trivial⟩, h.2.2⟩
  | _ :: y :: u, _, _, h => by
    obtain ⟨h1, h2⟩ := Lk.split (u := y :: u) h.2.2
    exact ⟨⟨h.1, h.2.1, h1⟩, h2⟩
theorem Lk.join {nw od : Nat → Nat} : ∀ {u : List Nat} {a : Nat} {v : List Nat}, Lk nw od (u ++ [a]) → Lk nw od (a :: v) → Lk nw od (u ++ a :: v)
  | [], _, _, _, h => h
  | [_], _, _, h, h' => ⟨h.1, h.2.1, h'⟩
  | _ :: y :: u, _, _, h, h' => ⟨h.1, h.2.1, Lk.join (u := y :: u) h.2.2 h'⟩
/-- A ring: its end, its members. -/
def Ring (nw od : Nat → Nat) (e : Nat) (l : List Nat) : Prop := Lk nw od (e :: (l ++ [e]))
theorem snoc_of_cons (e : Nat) (l : List Nat) : ∃ u a, e :: l = u ++ [a] := by
  rcases List.eq_nil_or_concat (e :: l) with h | ⟨u, a, h⟩
  · cases h
  · exact ⟨u, a, by rw [h, List.concat_eq_append]⟩
theorem cons_of_snoc (l : List Nat) (e : Nat) : ∃ b v, l ++ [e] = b :: v := by
  cases l with
  | nil => exact ⟨e, [], rfl⟩
  | cons b l => exact ⟨b, l ++ [e], rfl⟩
/-- Who stands ahead of a member, and who behind. -/
theorem Ring.at_ {nw od : Nat → Nat} {e p : Nat} {pre post : List Nat} (h : Ring nw od e (pre ++ p :: post)) : (∃ u, e :: pre = u ++ [nw p]) ∧ ∃ v, post ++ [e] = od p :: v := by
  obtain ⟨u, a, ha⟩ := snoc_of_cons e pre
  obtain ⟨b, v, hb⟩ := cons_of_snoc post e
  have h : Lk nw od (e :: (pre ++ p :: post ++ [e])) := h
  have e1 : e :: (pre ++ p :: post ++ [e]) = u ++ a :: p :: b :: v := by
    rw [List.append_assoc, List.cons_append, hb, ← List.cons_append, ha]; simp
  rw [e1] at h
  have h2 := h.split.2
  exact ⟨⟨u, by rw [h2.2.1]; exact ha⟩, ⟨v, by rw [h2.2.2.1]; exact hb⟩⟩
theorem Ring.nw_mem {nw od : Nat → Nat} {e p : Nat} {pre post : List Nat} (h : Ring nw od e (pre ++ p :: post)) : nw p ∈ e :: pre := by
  obtain ⟨⟨u, hu⟩, _⟩ := h.at_; rw [hu]; simp
theorem Ring.od_mem {nw od : Nat → Nat} {e p : Nat} {pre post : List Nat} (h : Ring nw od e (pre ++ p :: post)) : od p ∈ post ++ [e] := by
  obtain ⟨_, ⟨v, hv⟩⟩ := h.at_; rw [hv]; simp
/-- A member is taken out. -/
theorem Ring.out {nw od : Nat → Nat} {e p : Nat} {pre post : List Nat} (h : Ring nw od e (pre ++ p :: post)) (hn : (e :: (pre ++ p :: post)).Nodup) : Ring (upd nw (od p) (nw p)) (upd od (nw p) (od p)) e (pre ++ post) := by
  obtain ⟨⟨u, hu⟩, ⟨v, hv⟩⟩ := h.at_
  have h' : Lk nw od (e :: (pre ++ p :: post ++ [e])) := h
  have e1 : e :: (pre ++ p :: post ++ [e]) = u ++ nw p :: p :: od p :: v := by
    rw [List.append_assoc, List.cons_append, hv, ← List.cons_append, hu]; simp
  rw [e1] at h'
  obtain ⟨k1, k2⟩ := h'.split
  have k3 := k2.2.2.2.2
  show Lk _ _ (e :: (pre ++ post ++ [e]))
  have e2 : e :: (pre ++ post ++ [e]) = u ++ nw p :: od p :: v := by
    rw [List.append_assoc, hv, ← List.cons_append, hu]; simp
  rw [e2]
  have hn2 := List.nodup_cons.1 hn
  have hn3 := List.nodup_append.1 hn2.2
  have hn4 := List.nodup_cons.1 hn3.2.1
  have nd1 : (e :: pre).Nodup := List.nodup_cons.2 ⟨fun hx => hn2.1 (by simp [hx]), hn3.1⟩
  have nd2 : (post ++ [e]).Nodup := List.nodup_append.2 ⟨hn4.2, by simp, fun x hx y hy => by simp at hy; subst hy; exact fun hxy => hn2.1 (by simp [← hxy, hx])⟩
  have dis : ∀ x ∈ pre, ∀ y ∈ post, x ≠ y := fun x hx y hy => hn3.2.2 x hx y (List.mem_cons_of_mem _ hy)
  rw [hu] at nd1
  rw [hv] at nd2
  have nd1' := List.nodup_append.1 nd1
  have nd2' := List.nodup_cons.1 nd2
  have tl : (u ++ [nw p]).tail = pre := by rw [← hu]; rfl
  have dl : (od p :: v).dropLast = post := by rw [← hv]; simp
  refine Lk.join (k1.frame (fun q hq => ?_) (fun q hq => ?_)) ⟨upd_same _ _ _, upd_same _ _ _, k3.frame (fun q hq => ?_) (fun q hq => ?_)⟩
  · rw [List.dropLast_concat] at hq
    exact upd_other _ _ _ (fun x => nd1'.2.2 q hq (nw p) (by simp) x)
  · rw [tl] at hq
    refine upd_other _ _ _ (fun x => ?_)
    have := h.od_mem
    rw [← x] at this
    rcases List.mem_append.1 this with h1 | h1
    · exact dis q hq q h1 rfl
    · simp at h1; subst h1; exact hn2.1 (by simp [hq])
  · rw [dl] at hq
    refine upd_other _ _ _ (fun x => ?_)
    have := h.nw_mem
    rw [← x] at this
    rcases List.mem_cons.1 this with h1 | h1
    · subst h1; exact hn2.1 (by simp [hq])
    · exact dis q h1 q hq rfl
  · exact upd_other _ _ _ (fun x => nd2'.1 (x ▸ hq))
/-- One that stands in no ring is put ahead. -/
theorem Ring.ahead {nw od : Nat → Nat} {e p : Nat} {l : List Nat} (h : Ring nw od e l) (hn : (e :: p :: l).Nodup) : Ring (upd (upd nw p e) (od e) p) (upd (upd od p (od e)) e p) e (p :: l) := by
  obtain ⟨b, v, hb⟩ := cons_of_snoc l e
  have h' : Lk nw od (e :: (l ++ [e])) := h
  rw [hb] at h'
  have hn1 := List.nodup_cons.1 hn
  have hn2 := List.nodup_cons.1 hn1.2
  have hep : e ≠ p := fun x => hn1.1 (by simp [x])
  have nd2 : (l ++ [e]).Nodup := List.nodup_append.2 ⟨hn2.2, by simp, fun x hx y hy => by simp at hy; subst hy; exact fun hxy => hn1.1 (by simp [← hxy, hx])⟩
  rw [hb] at nd2
  have nd2' := List.nodup_cons.1 nd2
  have dl : (b :: v).dropLast = l := by rw [← hb]; simp
  have hpb : p ∉ b :: v := by rw [← hb]; simp; exact ⟨hn2.1, fun x => hep x.symm⟩
  have hob : od e = b := h'.1
  show Lk _ _ (e :: p :: (l ++ [e]))
  rw [hb, hob]
  refine ⟨upd_same _ _ _, ?_, ?_, upd_same _ _ _, h'.2.2.frame (fun q hq => ?_) (fun q hq => ?_)⟩
  · rw [upd_other _ _ _ (fun x => hpb (by simp [x])), upd_same]
  · rw [upd_other _ _ _ (fun x => hep x.symm), upd_same]
  · rw [dl] at hq
    rw [upd_other _ _ _ (fun x => hn1.1 (by simp [← x, hq])), upd_other _ _ _ (fun x => hn2.1 (by rw [← x]; exact hq))]
  · have hq : q ∈ v := hq
    rw [upd_other _ _ _ (fun x => nd2'.1 (by rw [← x]; exact hq)), upd_other _ _ _ (fun x => hpb (by subst x; exact List.mem_cons_of_mem _ hq))]
/-- Rings that a change doesn't reach stay. -/
theorem Ring.stay {nw od nw' od' : Nat → Nat} {e : Nat} {l : List Nat} (h : Ring nw od e l) (h1 : ∀ p ∈ e :: l, od' p = od p) (h2 : ∀ p ∈ e :: l, nw' p = nw p) : Ring nw' od' e l := by
  refine Lk.frame h (fun p hp => h1 p ?_) (fun p hp => h2 p ?_)
  · rw [← List.cons_append, List.dropLast_concat] at hp; exact hp
  · have hp : p ∈ l ++ [e] := hp
    simp at hp ⊢; rcases hp with hp | hp
    · exact .inr hp
    · exact .inl hp
theorem Ring.one (nw od : Nat → Nat) (e : Nat) (h1 : od e = e) (h2 : nw e = e) : Ring nw od e [] := ⟨h1, h2, trivial⟩
theorem Ring.first {nw od : Nat → Nat} {e : Nat} {l : List Nat} (h : Ring nw od e l) : od e = l.headD e := by
  cases l with
  | nil => exact h.1
  | cons a l => exact h.1
theorem Ring.od_e {nw od : Nat → Nat} {e : Nat} {l : List Nat} (h : Ring nw od e l) : od e ∈ e :: l := by
  rw [h.first]; cases l <;> simp
/-- Going on from a member. -/
theorem Ring.next {nw od : Nat → Nat} {e p : Nat} {pre post : List Nat} (h : Ring nw od e (pre ++ p :: post)) : od p = post.headD e := by
  obtain ⟨_, ⟨v, hv⟩⟩ := h.at_
  cases post with
  | nil => simp at hv; exact hv.1.symm
  | cons b post => simp at hv; exact hv.1.symm
/-- Going back. -/
theorem Ring.prev {nw od : Nat → Nat} {e p : Nat} {pre post : List Nat} (h : Ring nw od e (pre ++ p :: post)) : nw p = pre.getLastD e := by
  obtain ⟨⟨u, hu⟩, _⟩ := h.at_
  rcases List.eq_nil_or_concat pre with rfl | ⟨q, a, rfl⟩
  · cases u with
    | nil => simp at hu; simp [hu]
    | cons _ u => simp at hu
  · rw [List.concat_eq_append, ← List.cons_append] at hu
    have := List.append_inj_right' hu rfl
    simp at this
    simp [this]
theorem Ring.last {nw od : Nat → Nat} {e : Nat} {l : List Nat} (h : Ring nw od e l) : nw e = l.getLastD e := by
  rcases List.eq_nil_or_concat l with rfl | ⟨q, a, rfl⟩
  · exact h.2.1
  · have h' : Lk nw od (e :: (q.concat a ++ [e])) := h
    rw [List.concat_eq_append, List.append_assoc] at h'
    have e1 : e :: (q ++ ([a] ++ [e])) = (e :: q) ++ a :: [e] := by simp
    rw [e1] at h'
    have := h'.split.2.2.1
    rw [this]; simp
end Go.Proofs.YtfinaichajbnkaaGreatDoor


namespace Go.Proofs.YtfinaichajbnkaaGreatDoor
open Go.RowKit

theorem ret_int {k : IntKind} {a b : Int} (h : a = b) : Ending.returned (.int k a) = .returned (.int k b) := by rw [h]

/-- Whose each block is, and which part of it: marks. -/
def lab (o : (Nat → Nat × Nat)) (b : Nat) (t : Nat × Nat) : (Nat → Nat × Nat) := fun c => if c = b then t else o c
theorem lab_same (o : (Nat → Nat × Nat)) (b : Nat) (t : Nat × Nat) : lab o b t b = t := by simp [lab]
theorem lab_other (o : (Nat → Nat × Nat)) (b : Nat) (t : Nat × Nat) {c : Nat} (h : c ≠ b) : lab o b t c = o c := by simp [lab, h]

/-- Of what was there blocks with a mark in T alone have turned; marks stay. -/
structure Fr (T : Nat × Nat → Prop) (o o' : (Nat → Nat × Nat)) (w w' : World) : Prop where
  os : w'.os = w.os
  tape : w'.tape = w.tape
  output : w'.output = w.output
  size : w.heap.size ≤ w'.heap.size
  lab : ∀ b, b < w.heap.size → o' b = o b
  block : ∀ b, b < w.heap.size → ¬ T (o b) → w'.heap[b]? = w.heap[b]?
theorem Fr.refl (T : Nat × Nat → Prop) (o : (Nat → Nat × Nat)) (w : World) : Fr T o o w w := ⟨rfl, rfl, rfl, Nat.le_refl _, fun _ _ => rfl, fun _ _ _ => rfl⟩
theorem Fr.trans {T : Nat × Nat → Prop} {o1 o2 o3 : (Nat → Nat × Nat)} {w1 w2 w3 : World} (h : Fr T o1 o2 w1 w2) (k : Fr T o2 o3 w2 w3) : Fr T o1 o3 w1 w3 :=
  ⟨k.os.trans h.os, k.tape.trans h.tape, k.output.trans h.output, Nat.le_trans h.size k.size,
    fun b hb => (k.lab b (Nat.lt_of_lt_of_le hb h.size)).trans (h.lab b hb),
    fun b hb ht => (k.block b (Nat.lt_of_lt_of_le hb h.size) (by rw [h.lab b hb]; exact ht)).trans (h.block b hb ht)⟩
theorem Fr.mono {T T' : Nat × Nat → Prop} {o o' : (Nat → Nat × Nat)} {w w' : World} (h : Fr T o o' w w') (hT : ∀ t, T t → T' t) : Fr T' o o' w w' :=
  ⟨h.os, h.tape, h.output, h.size, h.lab, fun b hb ht => h.block b hb (fun x => ht (hT _ x))⟩
theorem Fr.ofBelow (T : Nat × Nat → Prop) (o : (Nat → Nat × Nat)) {w w' : World} (h : Below w.heap.size w w') : Fr T o o w w' :=
  ⟨h.os, h.tape, h.output, h.size, fun _ _ => rfl, fun b hb _ => h.block b hb⟩
theorem Fr.drewN (T : Nat × Nat → Prop) (o : (Nat → Nat × Nat)) (w : World) (n : Nat) : Fr T o o w (w.drewN n) := ⟨rfl, rfl, rfl, Nat.le_refl _, fun _ _ => rfl, fun _ _ _ => rfl⟩
theorem Fr.drew1 (T : Nat × Nat → Prop) (o : (Nat → Nat × Nat)) (w : World) : Fr T o o w w.drew := ⟨rfl, rfl, rfl, Nat.le_refl _, fun _ _ => rfl, fun _ _ _ => rfl⟩
theorem Fr.new (T : Nat × Nat → Prop) (o : (Nat → Nat × Nat)) (w : World) (ob : Obj) (t : Nat × Nat) : Fr T o (YtfinaichajbnkaaGreatDoor.lab o w.heap.size t) w (w.alloc ob) :=
  ⟨rfl, rfl, rfl, by simp, fun b hb => lab_other _ _ _ (by omega), fun b hb _ => Below.heap_alloc _ _ _ hb⟩
theorem Fr.alloc (T : Nat × Nat → Prop) (o : (Nat → Nat × Nat)) (w : World) (ob : Obj) : Fr T o o w (w.alloc ob) :=
  ⟨rfl, rfl, rfl, by simp, fun b hb => rfl, fun b hb _ => Below.heap_alloc _ _ _ hb⟩
theorem Fr.set {T : Nat × Nat → Prop} {o : (Nat → Nat × Nat)} {w : World} {a : Addr} (h : T (o a.block)) (v : Value) : Fr T o o w (w.setCell a v) :=
  ⟨rfl, rfl, rfl, by simp [World.setCell], fun _ _ => rfl, fun b _ ht => Below.heap_setCell _ _ _ _ (fun e => ht (by rw [e]; exact h))⟩
/-- A store into a block that is new behind w0. -/
theorem Fr.setNew {T : Nat × Nat → Prop} {o o' : (Nat → Nat × Nat)} {w0 w : World} (h : Fr T o o' w0 w) {a : Addr} (ha : w0.heap.size ≤ a.block) (v : Value) : Fr T o o' w0 (w.setCell a v) :=
  ⟨h.os, h.tape, h.output, by simpa [World.setCell] using h.size, h.lab, fun b hb ht => (Below.heap_setCell _ _ _ _ (by omega)).trans (h.block b hb ht)⟩
theorem size_setCells (w : World) (g o : Nat) (vs : List Value) : (w.setCells g o vs).heap.size = w.heap.size := by
  induction vs generalizing o w with
  | nil => rfl
  | cons v vs ih => show ((w.setCell ⟨g, o, none⟩ v).setCells g (o + 1) vs).heap.size = _; rw [ih]; simp [World.setCell]
theorem Fr.sets {T : Nat × Nat → Prop} {o : (Nat → Nat × Nat)} {g : Nat} (h : T (o g)) : ∀ (vs : List Value) (off : Nat) (w : World), Fr T o o w (w.setCells g off vs)
  | [], _, _ => Fr.refl T o _
  | v :: vs, off, _ => (Fr.set (a := ⟨g, off, none⟩) h v).trans (Fr.sets h vs (off + 1) _)
theorem Fr.below {T : Nat × Nat → Prop} {o o' : (Nat → Nat × Nat)} {w w' : World} (h : Fr T o o' w w') {N : Nat} (hN : N ≤ w.heap.size) (hT : ∀ b, b < N → ¬ T (o b)) : Below N w w' :=
  ⟨h.os, h.tape, h.output, h.size, fun b hb => h.block b (by omega) (hT b hb)⟩
theorem Fr.cell {T : Nat × Nat → Prop} {o o' : (Nat → Nat × Nat)} {w w' : World} (h : Fr T o o' w w') {b off : Nat} {v : Value} (hc : w.cell? ⟨b, off, none⟩ = some v) (hT : ¬ T (o b)) : w'.cell? ⟨b, off, none⟩ = some v :=
  (World.cell?_of_block (a := ⟨b, off, none⟩) (h.block b (World.block_lt_of_cell? _ _ hc) hT)).trans hc
theorem Fr.frozen {T : Nat × Nat → Prop} {o o' : (Nat → Nat × Nat)} {w w' : World} (h : Fr T o o' w w') {b off : Nat} (hb : b < w.heap.size) (hT : ¬ T (o b)) : w'.frozen? ⟨b, off, none⟩ = w.frozen? ⟨b, off, none⟩ :=
  World.frozen?_of_block (a := ⟨b, off, none⟩) (h.block b hb hT)

/-- A list of the call's own: n elements of k cells, the cells cs, in a block with the mark t. -/
def OwnK (w : World) (o : (Nat → Nat × Nat)) (t : Nat × Nat) (k : Nat) (v : Value) (n : Nat) (cs : List Value) : Prop :=
  cs.length = n * k ∧ (∀ u ∈ cs, u.oneCell' = true) ∧ ((v = .slice none 0 0 ∧ n = 0) ∨ ∃ g cap, v = .slice (some ⟨g, 0, none⟩) n cap ∧ o g = t ∧ g < w.heap.size ∧ n ≤ cap ∧ cap ≤ maxLen ∧
    (∀ j u, cs[j]? = some u → w.cell? ⟨g, j, none⟩ = some u) ∧ ∀ j, j < cap * k → (w.cell? ⟨g, j, none⟩).isSome = true ∧ w.frozen? ⟨g, j, none⟩ = false)
theorem OwnK.nil (w : World) (o : (Nat → Nat × Nat)) (t : Nat × Nat) (k : Nat) : OwnK w o t k (.slice none 0 0) 0 [] := ⟨by simp, (fun _ h => by cases h), .inl ⟨rfl, rfl⟩⟩
theorem OwnK.form {w : World} {o : (Nat → Nat × Nat)} {t : Nat × Nat} {k : Nat} {v : Value} {n : Nat} {cs : List Value} (h : OwnK w o t k v n cs) : ∃ a c, v = .slice a n c ∧ n ≤ c := by
  rcases h.2.2 with ⟨rfl, rfl⟩ | ⟨g, cap, rfl, _, _, h1, _⟩
  · exact ⟨none, 0, rfl, Nat.le_refl _⟩
  · exact ⟨_, cap, rfl, h1⟩
/-- A list that isn't empty lies in a block. -/
theorem OwnK.there {w : World} {o : (Nat → Nat × Nat)} {t : Nat × Nat} {k : Nat} {v : Value} {n : Nat} {cs : List Value} (h : OwnK w o t k v n cs) (hn : 0 < n) : ∃ g cap, v = .slice (some ⟨g, 0, none⟩) n cap ∧ o g = t ∧ g < w.heap.size ∧ n ≤ cap ∧ cap ≤ maxLen ∧
    (∀ j u, cs[j]? = some u → w.cell? ⟨g, j, none⟩ = some u) ∧ ∀ j, j < cap * k → (w.cell? ⟨g, j, none⟩).isSome = true ∧ w.frozen? ⟨g, j, none⟩ = false := by
  rcases h.2.2 with ⟨rfl, rfl⟩ | h
  · omega
  · exact h
theorem OwnK.fr {T : Nat × Nat → Prop} {w w' : World} {o o' : (Nat → Nat × Nat)} {t : Nat × Nat} {k : Nat} {v : Value} {n : Nat} {cs : List Value} (h : OwnK w o t k v n cs) (f : Fr T o o' w w') (ht : ¬ T t) : OwnK w' o' t k v n cs := by
  refine ⟨h.1, h.2.1, ?_⟩
  rcases h.2.2 with h | ⟨g, cap, h1, h2, h3, h4, h5, h6, h7⟩
  · exact .inl h
  · have hT : ¬ T (o g) := by rw [h2]; exact ht
    have hb := f.block g h3 hT
    refine .inr ⟨g, cap, h1, (f.lab g h3).trans h2, Nat.lt_of_lt_of_le h3 f.size, h4, h5, fun j u hu => f.cell (h6 j u hu) hT, fun j hj => ?_⟩
    exact ⟨by rw [World.cell?_of_block (a := ⟨g, j, none⟩) hb]; exact (h7 j hj).1, (World.frozen?_of_block (a := ⟨g, j, none⟩) hb).trans (h7 j hj).2⟩
theorem OwnK.below {w w' : World} {o : (Nat → Nat × Nat)} {t : Nat × Nat} {k : Nat} {v : Value} {n : Nat} {cs : List Value} (h : OwnK w o t k v n cs) (hb : Below w.heap.size w w') : OwnK w' o t k v n cs := h.fr (Fr.ofBelow (fun _ => False) o hb) (fun x => x)
theorem some_setCell (w : World) (a x : Addr) (v : Value) (h : (w.cell? x).isSome = true) : ((w.setCell a v).cell? x).isSome = true := by
  obtain ⟨u, hu⟩ := Option.isSome_iff_exists.1 h
  by_cases e : a = x
  · subst e; rw [World.cell?_setCell_same _ _ _ hu]; rfl
  · rw [World.cell?_setCell_other _ _ _ _ e]; exact h
theorem some_setCells (b : Nat) : ∀ (vs : List Value) (o : Nat) (w : World) (x : Addr), (w.cell? x).isSome = true → ((w.setCells b o vs).cell? x).isSome = true
  | [], _, _, _, h => h
  | v :: vs, o, w, x, h => some_setCells b vs (o + 1) (w.setCell ⟨b, o, none⟩ v) x (some_setCell w _ x v h)

/-- A list in new memory. -/
theorem own_new {w : World} {o : (Nat → Nat × Nat)} {t : Nat × Nat} {k n cap : Nat} {e : TypeId} (cs : List Value) (rest : Array Value) (hl : cs.length = n * k) (h1 : ∀ u ∈ cs, u.oneCell' = true) (hn : n ≤ cap) (hm : cap ≤ maxLen) (hr : rest.size = (cap - n) * k) :
    OwnK (w.alloc (.cells (cs.toArray ++ rest) e)) (lab o w.heap.size t) t k (.slice (some ⟨w.heap.size, 0, none⟩) n cap) n cs := by
  have hsz : (cs.toArray ++ rest).size = cap * k := by
    rw [Array.size_append, List.size_toArray, hl, hr, ← Nat.add_mul]; congr 1; omega
  refine ⟨hl, h1, .inr ⟨_, cap, rfl, lab_same _ _ _, by simp, hn, hm, fun j u hu => ?_, fun j hj => ⟨?_, World.frozen?_alloc_new _ _ _ _⟩⟩⟩
  · rw [World.cell?_alloc_new, Array.getElem?_append_left (by simpa using (List.getElem?_eq_some_iff.1 hu).1), List.getElem?_toArray]; exact hu
  · rw [World.cell?_alloc_new, Array.getElem?_eq_getElem (by rw [hsz]; exact hj)]; rfl
/-- More cells stored behind a list that has the room. -/
theorem own_room {w : World} {o : (Nat → Nat × Nat)} {t : Nat × Nat} {k n m cap g : Nat} {cs news : List Value} (hl : cs.length = n * k) (hl2 : news.length = m * k) (h1 : ∀ u ∈ cs, u.oneCell' = true) (h2 : ∀ u ∈ news, u.oneCell' = true) (hg : o g = t) (hgs : g < w.heap.size)
    (hroom : n + m ≤ cap) (hm : cap ≤ maxLen) (h6 : ∀ j u, cs[j]? = some u → w.cell? ⟨g, j, none⟩ = some u) (h7 : ∀ j, j < cap * k → (w.cell? ⟨g, j, none⟩).isSome = true ∧ w.frozen? ⟨g, j, none⟩ = false) :
    OwnK (w.setCells g (n * k) news) o t k (.slice (some ⟨g, 0, none⟩) (n + m) cap) (n + m) (cs ++ news) := by
  have hcap : n * k + m * k ≤ cap * k := by rw [← Nat.add_mul]; exact Nat.mul_le_mul_right _ hroom
  refine ⟨by rw [List.length_append, hl, hl2, Nat.add_mul], fun u hu => by rcases List.mem_append.1 hu with h | h; exact h1 u h; exact h2 u h, .inr ⟨g, cap, rfl, hg, by rw [size_setCells]; exact hgs, hroom, hm, fun j u hu => ?_, fun j hj => ⟨some_setCells g _ _ _ _ (h7 j hj).1, by rw [World.frozen?_setCells]; exact (h7 j hj).2⟩⟩⟩
  by_cases hj : j < cs.length
  · rw [List.getElem?_append_left hj] at hu
    rw [World.cell?_setCells_out g news (n * k) w ⟨g, j, none⟩ (fun _ _ => .inl (by rw [← hl]; exact hj))]; exact h6 j u hu
  · rw [List.getElem?_append_right (by omega)] at hu
    have hjn := (List.getElem?_eq_some_iff.1 hu).1
    have e := World.cell?_setCells_in g news (n * k) w (fun q hq => (h7 (n * k + q) (by omega)).1) (j - cs.length) hjn
    rw [show n * k + (j - cs.length) = j by omega] at e
    rw [e]
    rw [List.getElem?_eq_getElem hjn] at hu; exact hu
/-- append, of whatever is behind. -/
theorem app_own {w : World} {o : (Nat → Nat × Nat)} {t : Nat × Nat} {k : Nat} {v : Value} {n : Nat} {cs : List Value} (T tx e : TypeId) (z : Value) (bz : Nat) (ht : Tryz.prog.underlying T = some (.slice e)) (hinfo : (Tryz.prog.info? e).map (fun i => (i.zero, i.size, i.bytes)) = some (some z, k, bz)) (hz : z.cells.size = k)
    (h : OwnK w o t k v n cs) {x : Value} {m : Nat} {news : List Value} (hs : Src Tryz.prog k tx x m news w) (hb : (n + m) * bz ≤ 140737488355328) (hb2 : n + m ≤ 140737488355328) :
    ∃ v' w' o', (Builtin.append_ #[T, tx] T #[v, x]).run Tryz.prog w = .ok v' w' ∧ OwnK w' o' t k v' (n + m) (cs ++ news) ∧ Fr (· = t) o o' w w' := by
  obtain ⟨i0, hi, hz0, hz1, hz2⟩ := info_parts hinfo
  have hs' : Src Tryz.prog i0.size tx x m news w := by rw [hz1]; exact hs
  obtain ⟨hl, h1, h⟩ := h
  have hmax : n + m ≤ maxLen := by unfold maxLen; omega
  have grow : ∀ (a : Option Addr) (c : Nat), v = .slice a n c → c < n + m → (Builtin.firstCells i0.size n (.slice a n c)).run Tryz.prog w.drew = .ok cs.toArray w.drew →
      ∃ v' w' o', (Builtin.append_ #[T, tx] T #[v, x]).run Tryz.prog w = .ok v' w' ∧ OwnK w' o' t k v' (n + m) (cs ++ news) ∧ Fr (· = t) o o' w w' := by
    rintro a c rfl hc hold
    have hr := run_append_grow_src (P := Tryz.prog) w T tx T e i0 z ht hi hz0 a n c cs hold x m news hs' hc (by omega) (by rw [hz2]; exact growslice_fits hc hb)
    have hge := grownCap_ge w (n + m) c e
    have hcm := grownCap_le_maxLen w (n + m) c e hmax
    obtain ⟨cap, hcap⟩ : ∃ cap, grownCap w (n + m) c e = cap := ⟨_, rfl⟩
    rw [hcap] at hr hge hcm
    refine ⟨_, _, lab o w.heap.size t, hr, ?_, (Fr.drew1 _ o w).trans (Fr.new _ o w.drew _ t)⟩
    have := own_new (w := w.drew) (o := o) (t := t) (k := k) (n := n + m) (cap := cap) (e := e) (cs ++ news) (Builtin.zeroCells z.cells (cap - (n + m))) (by rw [List.length_append, hl, hs.newsLen, Nat.add_mul]) (fun u hu => by rcases List.mem_append.1 hu with h | h; exact h1 u h; exact hs.one u h) hge hcm (by rw [size_zeroCells, hz])
    exact this
  rcases h with ⟨rfl, rfl⟩ | ⟨g, cap, rfl, h2, h3, h4, h5, h6, h7⟩
  · have hcs : cs = [] := List.eq_nil_of_length_eq_zero (by omega)
    subst hcs
    by_cases m0 : m = 0
    · subst m0
      have hn : news = [] := List.eq_nil_of_length_eq_zero (by have := hs.newsLen; omega)
      subst hn
      exact ⟨_, w, o, run_append_nothing w T tx T e i0 ht hi none 0 0 (Nat.le_refl _) x hs', ⟨by simp, (fun _ h => by cases h), .inl ⟨rfl, rfl⟩⟩, Fr.refl _ _ _⟩
    · exact grow none 0 rfl (by omega) (by simpa using run_firstCells_none (P := Tryz.prog) w.drew i0.size 0 0 0)
  · by_cases hroom : n + m ≤ cap
    · have hnl := hs.newsLen
      have hcap : n * k + m * k ≤ cap * k := by rw [← Nat.add_mul]; exact Nat.mul_le_mul_right _ hroom
      have hr := run_append_room_src (P := Tryz.prog) w T tx T e i0 ht hi g 0 n cap x m news hs' hroom (fun j hj => by
          rw [hz1, Nat.zero_add]
          exact (h7 (n * k + j) (by omega)).1) (fun j hj => by
          rw [hz1, Nat.zero_add]
          exact (h7 (n * k + j) (by omega)).2)
      rw [hz1, Nat.zero_add] at hr
      exact ⟨_, _, o, hr, own_room hl hnl h1 hs.one h2 h3 hroom h5 h6 h7, Fr.sets (T := (· = t)) h2 _ _ _⟩
    · refine grow _ cap rfl (by omega) (run_firstCells_some (P := Tryz.prog) w.drew i0.size n ⟨g, 0, none⟩ n cap cs (by rw [hl, hz1]) (fun j u hu => ?_))
      have e : (⟨g, 0, none⟩ : Addr).add j = ⟨g, j, none⟩ := by unfold Addr.add; split <;> simp_all
      rw [e]; exact h6 j u hu
/-- One element, in a block of its own, as what is appended. -/
theorem src_new {T e : TypeId} (ht : Tryz.prog.underlying T = some (.slice e)) (w : World) (k c : Nat) (news : List Value) (hl : news.length = k) (h1 : ∀ u ∈ news, u.oneCell' = true) : Src Tryz.prog k T (.slice (some ⟨w.heap.size, 0, none⟩) 1 c) 1 news (w.alloc (.cells news.toArray e)) := by
  refine Src.ofSlice _ ht _ 1 c _ (by omega) (fun j u hu => ?_) h1
  have e : (⟨w.heap.size, 0, none⟩ : Addr).add j = ⟨w.heap.size, j, none⟩ := by unfold Addr.add; split <;> simp_all
  rw [e, World.cell?_alloc_new, List.getElem?_toArray]; exact hu
theorem app_one {w : World} {o : (Nat → Nat × Nat)} {t : Nat × Nat} {k : Nat} {v : Value} {n : Nat} {cs : List Value} (T e : TypeId) (z : Value) (bz : Nat) (ht : Tryz.prog.underlying T = some (.slice e)) (hinfo : (Tryz.prog.info? e).map (fun i => (i.zero, i.size, i.bytes)) = some (some z, k, bz)) (hz : z.cells.size = k)
    (h : OwnK w o t k v n cs) (news : List Value) (hl : news.length = k) (h1 : ∀ u ∈ news, u.oneCell' = true) (hb : (n + 1) * bz ≤ 140737488355328) (hb2 : n + 1 ≤ 140737488355328) :
    ∃ v' w' o', (Builtin.append_ #[T, T] T #[v, .slice (some ⟨w.heap.size, 0, none⟩) 1 1]).run Tryz.prog (w.alloc (.cells news.toArray e)) = .ok v' w' ∧ OwnK w' o' t k v' (n + 1) (cs ++ news) ∧ Fr (· = t) o o' w w' := by
  obtain ⟨v', w', o', hr, h2, h3⟩ := app_own T T e z bz ht hinfo hz (h.fr (Fr.alloc (fun _ => False) o w (.cells news.toArray e)) (fun x => x)) (src_new ht w k 1 news hl h1) hb hb2
  exact ⟨v', w', o', hr, h2, (Fr.alloc _ o w _).trans h3⟩
/-- A list, whole, as what is appended. -/
theorem OwnK.src {w : World} {o : (Nat → Nat × Nat)} {t : Nat × Nat} {k : Nat} {v : Value} {n : Nat} {cs : List Value} {T e : TypeId} (ht : Tryz.prog.underlying T = some (.slice e)) (h : OwnK w o t k v n cs) : Src Tryz.prog k T v n cs w := by
  obtain ⟨hl, h1, h⟩ := h
  rcases h with ⟨rfl, rfl⟩ | ⟨g, cap, rfl, h2, h3, h4, h5, h6, h7⟩
  · have : cs = [] := List.eq_nil_of_length_eq_zero (by omega)
    subst this; exact Src.ofNil _ ht 0
  · refine Src.ofSlice _ ht _ n cap _ hl (fun j u hu => ?_) h1
    have e : (⟨g, 0, none⟩ : Addr).add j = ⟨g, j, none⟩ := by unfold Addr.add; split <;> simp_all
    rw [e]; exact h6 j u hu
set_option maxRecDepth 100000 in
/-- append(l, make([]T, q)...). -/
theorem app_zeros {w : World} {o : (Nat → Nat × Nat)} {t : Nat × Nat} {k : Nat} {v : Value} {n : Nat} {cs : List Value} {q : Nat} (T e : TypeId) (z : Value) (bz : Nat) (ht : Tryz.prog.underlying T = some (.slice e)) (hti : Tryz.prog.underlying 3 = some (.int .i64)) (hinfo : (Tryz.prog.info? e).map (fun i => (i.zero, i.size, i.bytes)) = some (some z, k, bz)) (hz : z.cells.size = k) (hz1c : ∀ u ∈ (Builtin.zeroCells z.cells q).toList, u.oneCell' = true) (hk : 0 < k)
    (h : OwnK w o t k v n cs) (hq : 0 < q) (hb : (n + q) * bz ≤ 140737488355328) (hb2 : n + q ≤ 140737488355328) :
    ∃ v' w' o', (Builtin.append_ #[T, 3] T #[v, .int .i64 (q : Int)]).run Tryz.prog w = .ok v' w' ∧ OwnK w' o' t k v' (n + q) (cs ++ (Builtin.zeroCells z.cells q).toList) ∧ Fr (· = t) o o' w w' := by
  obtain ⟨i0, hi, hz0, hz1, hz2⟩ := info_parts hinfo
  obtain ⟨hl, h1, h⟩ := h
  have hmax : n + q ≤ maxLen := by unfold maxLen; omega
  have hzl : (Builtin.zeroCells z.cells q).toList.length = q * k := by rw [Array.length_toList, size_zeroCells, hz]
  have hw : IntKind.i64.wrap (q : Int) = q := by rw [IntKind.wrap_i64]; omega
  have hneg : ¬ ((q : Int) < 0) := by omega
  have hqb : q * bz ≤ 140737488355328 := Nat.le_trans (Nat.mul_le_mul_right _ (by omega)) hb
  have h48i : ¬ (281474976710656 < (q : Int) * (bz : Int)) := by
    rw [← Int.natCast_mul]; omega
  have hns : ¬ (q * k = 0) := Nat.mul_ne_zero (by omega) (by omega)
  have h63 : ¬ (9223372036854775807 < (n : Int) + (q : Int)) := by omega
  have grow : ∀ (a : Option Addr) (c : Nat), v = .slice a n c → c < n + q → (Builtin.firstCells k n (.slice a n c)).run Tryz.prog w.drew = .ok cs.toArray w.drew →
      ∃ v' w' o', (Builtin.append_ #[T, 3] T #[v, .int .i64 (q : Int)]).run Tryz.prog w = .ok v' w' ∧ OwnK w' o' t k v' (n + q) (cs ++ (Builtin.zeroCells z.cells q).toList) ∧ Fr (· = t) o o' w w' := by
    rintro a c rfl hc hold
    have hge := grownCap_ge w (n + q) c e
    have hcm := grownCap_le_maxLen w (n + q) c e hmax
    have hn : ¬ (n + q ≤ c) := by omega
    have h48 : ¬ (281474976710656 < Builtin.nextslicecap (n + q) c * bz) := by have := growslice_fits hc hb; omega
    have hr : (Builtin.append_ #[T, 3] T #[.slice a n c, .int .i64 (q : Int)]).run Tryz.prog w = .ok (.slice (some ⟨w.heap.size, 0, none⟩) (n + q) (grownCap w (n + q) c e)) (w.drew.alloc (.cells ((cs ++ (Builtin.zeroCells z.cells q).toList).toArray ++ Builtin.zeroCells z.cells (grownCap w (n + q) c e - (n + q))) e)) := by
      simp [Builtin.append_, run_underlying ht, run_underlying hti, sizeOf, typeInfo, zeroValue, hi, hz0, hz1, hz2, asInt, asIntOf, hw, hneg, hns, h48i, hn, h63, h48, Question.forced, hold, newRow, grownCap]
      congr 2
      apply Array.ext'
      simp [List.append_assoc]
    obtain ⟨cap, hcap⟩ : ∃ cap, grownCap w (n + q) c e = cap := ⟨_, rfl⟩
    rw [hcap] at hr hge hcm
    refine ⟨_, _, lab o w.heap.size t, hr, ?_, (Fr.drew1 _ o w).trans (Fr.new _ o w.drew _ t)⟩
    exact own_new (w := w.drew) (o := o) (t := t) (k := k) (n := n + q) (cap := cap) (e := e) (cs ++ (Builtin.zeroCells z.cells q).toList) (Builtin.zeroCells z.cells (cap - (n + q))) (by rw [List.length_append, hl, hzl, Nat.add_mul]) (fun u hu => by rcases List.mem_append.1 hu with h | h; exact h1 u h; exact hz1c u h) hge hcm (by rw [size_zeroCells, hz])
  rcases h with ⟨rfl, rfl⟩ | ⟨g, cap, rfl, h2, h3, h4, h5, h6, h7⟩
  · have hcs : cs = [] := List.eq_nil_of_length_eq_zero (by omega)
    subst hcs
    exact grow none 0 rfl (by omega) (by simpa using run_firstCells_none (P := Tryz.prog) w.drew k 0 0 0)
  · by_cases hroom : n + q ≤ cap
    · have hcap : n * k + q * k ≤ cap * k := by rw [← Nat.add_mul]; exact Nat.mul_le_mul_right _ hroom
      have hst := run_storeCells_cells (P := Tryz.prog) g (0 + n * k) (Builtin.zeroCells z.cells q).toList 0 w (fun j hj => by
          rw [Nat.add_zero, Nat.zero_add]; exact (h7 (n * k + j) (by omega)).1) (fun j hj => by
          rw [Nat.add_zero, Nat.zero_add]; exact (h7 (n * k + j) (by omega)).2) hz1c
      simp only [Nat.add_zero] at hst
      have hr : (Builtin.append_ #[T, 3] T #[.slice (some ⟨g, 0, none⟩) n cap, .int .i64 (q : Int)]).run Tryz.prog w = .ok (.slice (some ⟨g, 0, none⟩) (n + q) cap) (w.setCells g (0 + n * k) (Builtin.zeroCells z.cells q).toList) := by
        simp [Builtin.append_, run_underlying ht, run_underlying hti, sizeOf, typeInfo, zeroValue, hi, hz0, hz1, hz2, asInt, asIntOf, hw, hneg, hns, h48i, hroom, Addr.add_lit]
        simp only [Nat.zero_add] at hst
        rw [hst]; rfl
      rw [Nat.zero_add] at hr
      exact ⟨_, _, o, hr, own_room hl hzl h1 hz1c h2 h3 hroom h5 h6 h7, Fr.sets (T := (· = t)) h2 _ _ _⟩
    · refine grow _ cap rfl (by omega) (run_firstCells_some (P := Tryz.prog) w.drew k n ⟨g, 0, none⟩ n cap cs hl (fun j u hu => ?_))
      have e : (⟨g, 0, none⟩ : Addr).add j = ⟨g, j, none⟩ := by unfold Addr.add; split <;> simp_all
      rw [e]; exact h6 j u hu
theorem wpList_append_run {P : Program} {w w' : World} {ops : Array Oper} {rest : List Oper} {o : Oper} {a : Act} {Q : Exit → Act → World → Prop} (hgd : o.guard = none) (s x : Operand) (t tx : TypeId)
    (ho : o.op = .call { callee := .builtin .append, args := #[s, x], argTypes := #[t, tx] }) (v xv v' : Value) (hs : a.eval s = v) (hx : a.eval x = xv)
    (hr : (Builtin.append_ #[t, tx] o.type #[v, xv]).run P w = .ok v' w') (h : wpList P ops Q rest (a.put o.dst v') w') : wpList P ops Q (o :: rest) a w := by
  refine wpList_plain hgd fun K hK => ?_
  unfold Oper.wp execOp
  simp only [ho, resolve, invoke, builtin, Sem.run_bind, Sem.run_pure, Result.andThen_ok, List.map_toArray, List.map_cons, List.map_nil, hs, hx, hr]
  exact hK _ _ h
/-- A cell of a list stored anew. -/
theorem OwnK.set {w : World} {o : (Nat → Nat × Nat)} {t : Nat × Nat} {k n g cap : Nat} {cs : List Value} (h : OwnK w o t k (.slice (some ⟨g, 0, none⟩) n cap) n cs) (j : Nat) (u : Value) (hu : u.oneCell' = true) (hj : j < n * k) : OwnK (w.setCell ⟨g, j, none⟩ u) o t k (.slice (some ⟨g, 0, none⟩) n cap) n (cs.set j u) := by
  obtain ⟨hl, h1, h⟩ := h
  rcases h with ⟨e, _⟩ | ⟨g', cap', e, h2, h3, h4, h5, h6, h7⟩
  · cases e
  · injection e with e1 e2 e3
    injection e1 with e1
    injection e1 with e1
    subst e1 e3
    have hjc : j < cap * k := Nat.lt_of_lt_of_le hj (Nat.mul_le_mul_right _ h4)
    refine ⟨by rw [List.length_set]; exact hl, fun x hx => by rcases List.mem_or_eq_of_mem_set hx with h | h; exact h1 x h; rw [h]; exact hu, .inr ⟨g, cap, rfl, h2, by simpa [World.setCell] using h3, h4, h5, fun i x hx => ?_, fun i hi => ⟨some_setCell _ _ _ _ (h7 i hi).1, by rw [World.frozen?_setCell]; exact (h7 i hi).2⟩⟩⟩
    obtain ⟨y, hy⟩ := Option.isSome_iff_exists.1 (h7 j hjc).1
    by_cases e : j = i
    · subst e
      rw [List.getElem?_set_self (by omega)] at hx
      rw [World.cell?_setCell_same _ _ _ hy]; exact hx
    · rw [List.getElem?_set_ne e] at hx
      rw [World.cell?_setCell_other _ _ _ _ (fun h => e (by injection h))]; exact h6 i x hx
/-- A list cut off. -/
theorem OwnK.cut {w : World} {o : (Nat → Nat × Nat)} {t : Nat × Nat} {k n g cap : Nat} {cs : List Value} (h : OwnK w o t k (.slice (some ⟨g, 0, none⟩) n cap) n cs) (m : Nat) (hm : m ≤ n) : OwnK w o t k (.slice (some ⟨g, 0, none⟩) m cap) m (cs.take (m * k)) := by
  obtain ⟨hl, h1, h⟩ := h
  rcases h with ⟨e, _⟩ | ⟨g', cap', e, h2, h3, h4, h5, h6, h7⟩
  · cases e
  · injection e with e1 e2 e3
    injection e1 with e1
    injection e1 with e1
    subst e1 e3
    refine ⟨by rw [List.length_take, hl]; exact Nat.min_eq_left (Nat.mul_le_mul_right _ hm), fun x hx => h1 x (List.mem_of_mem_take hx), .inr ⟨g, cap, rfl, h2, h3, by omega, h5, fun i x hx => h6 i x ?_, h7⟩⟩
    rw [List.getElem?_take] at hx
    split at hx
    · exact hx
    · cases hx
end Go.Proofs.YtfinaichajbnkaaGreatDoor
