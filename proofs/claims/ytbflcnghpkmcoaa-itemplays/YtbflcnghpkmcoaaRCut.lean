/-
  PARTS OF LISTS; one element taken out of a list, behind some others.
-/
import Derived.Test.YtbflcnghpkmcoaaRSto
namespace Go.Proofs.Ytbflcnghpkmcoaa
open Go.RowKit

def cutA (g l cap k : Nat) : Addr := if cap = l then ⟨g, 0, none⟩ else ⟨g, l * k, none⟩
theorem slice_hiT (T E : TypeId) (k : Nat) (el : Try.prog.underlying T = some (.slice (Try.prog.elem T))) (ee : Try.prog.elem T = E) (sE : ∀ w : World, (sizeOf E).run Try.prog w = .ok k w) (g len cap h : Nat) (hh : h ≤ cap) (w : World) :
    (Instr.sliceAt T (.slice (some ⟨g, 0, none⟩) len cap) none (some (.int .i64 (h : Int))) none).run Try.prog w = .ok (.slice (some ⟨g, 0, none⟩) h cap) w := by
  rw [run_sliceAt_slice _ _ _ _ _ _ el, run_slice_h _ _ _ _ _ el _ _ (by omega) (by omega), ee, sE]
  have ea : (⟨g, 0, none⟩ : Addr).add 0 = ⟨g, 0, none⟩ := by unfold Addr.add; split <;> simp_all
  simp [sliced, ea]
theorem slice_loT (T E : TypeId) (k : Nat) (el : Try.prog.underlying T = some (.slice (Try.prog.elem T))) (ee : Try.prog.elem T = E) (sE : ∀ w : World, (sizeOf E).run Try.prog w = .ok k w) (g len cap l : Nat) (hl : l ≤ len) (w : World) :
    (Instr.sliceAt T (.slice (some ⟨g, 0, none⟩) len cap) (some (.int .i64 (l : Int))) none none).run Try.prog w = .ok (.slice (some (cutA g l cap k)) (len - l) (cap - l)) w := by
  rw [run_sliceAt_slice _ _ _ _ _ _ el, run_slice_l _ _ _ _ _ el _ _ (by omega) (by omega), ee, sE]
  have ea : (⟨g, 0, none⟩ : Addr).add (l * k) = ⟨g, l * k, none⟩ := by unfold Addr.add; split <;> simp_all
  unfold cutA
  by_cases e : cap = l
  · simp [sliced, e]
  · simp [sliced, e, ea]
theorem src_drop {w : World} {o : (Nat → Nat × Nat)} {t : Nat × Nat} {k n g cap : Nat} {cs : List Value} {T E : TypeId} (ht : Try.prog.underlying T = some (.slice E)) (h : OwnK w o t k (.slice (some ⟨g, 0, none⟩) n cap) n cs) (l : Nat) (hl : l ≤ n) :
    Src Try.prog k T (.slice (some (cutA g l cap k)) (n - l) (cap - l)) (n - l) (cs.drop (l * k)) w := by
  obtain ⟨hlen, h1, h⟩ := h
  rcases h with ⟨e, _⟩ | ⟨g', cap', e, h2, h3, h4, h5, h6, h7⟩
  · cases e
  · injection e with e1 e2 e3
    injection e1 with e1
    injection e1 with e1
    subst e1 e3
    refine Src.ofSlice _ ht _ _ _ _ (by rw [List.length_drop, hlen, Nat.sub_mul]) (fun j u hu => ?_) (fun u hu => h1 u (List.mem_of_mem_drop hu))
    have hj := (List.getElem?_eq_some_iff.1 hu).1
    rw [List.length_drop, hlen] at hj
    have hne : ¬ cap = l := fun e => by
      have : n = l := by omega
      rw [this] at hj; omega
    unfold cutA
    rw [if_neg hne]
    have e : (⟨g, l * k, none⟩ : Addr).add j = ⟨g, l * k + j, none⟩ := by unfold Addr.add; split <;> simp_all
    rw [e]
    rw [List.getElem?_drop] at hu
    exact h6 _ _ hu
theorem OwnK.mark {w : World} {o o' : (Nat → Nat × Nat)} {t t' : Nat × Nat} {k n g cap : Nat} {cs : List Value} (h : OwnK w o t k (.slice (some ⟨g, 0, none⟩) n cap) n cs) (ho : o' g = t') : OwnK w o' t' k (.slice (some ⟨g, 0, none⟩) n cap) n cs := by
  obtain ⟨hl, h1, h⟩ := h
  rcases h with ⟨e, _⟩ | ⟨g', cap', e, h2, h3, h4, h5, h6, h7⟩
  · cases e
  · injection e with e1 e2 e3
    injection e1 with e1
    injection e1 with e1
    subst e1 e3
    exact ⟨hl, h1, .inr ⟨g, cap, rfl, ho, h3, h4, h5, h6, h7⟩⟩
theorem own_fresh {w w2 : World} {o o2 : (Nat → Nat × Nat)} {t t' : Nat × Nat} {k n : Nat} {v : Value} {cs : List Value} (h : OwnK w2 o2 t' k v n cs) (hn : ∀ b, b < w.heap.size → o2 b ≠ t') (hb : Below w.heap.size w w2) :
    ∃ o', OwnK w2 o' t k v n cs ∧ ∀ U, Fr U o o' w w2 := by
  have hh := h
  obtain ⟨hl, h1, h⟩ := h
  rcases h with ⟨rfl, rfl⟩ | ⟨g, cap, rfl, h2, h3, h4, h5, h6, h7⟩
  · exact ⟨o, ⟨hl, h1, .inl ⟨rfl, rfl⟩⟩, fun U => Fr.ofBelow U o hb⟩
  · have hg : w.heap.size ≤ g := Nat.le_of_not_lt fun e => hn g e h2
    exact ⟨lab o g t, hh.mark (lab_same _ _ _), fun U => ⟨hb.os, hb.tape, hb.output, hb.size, fun b hb => lab_other _ _ _ (by omega), fun b h _ => hb.block b h⟩⟩
/-- append(append([]T{..}, l[:i]...), l[i+1:]...). -/
theorem erase_own3 {w : World} {o : (Nat → Nat × Nat)} {t : Nat × Nat} {k n g cap i n0 : Nat} {cs hd : List Value} (T E : TypeId) (z : Value) (bz : Nat) (ht : Try.prog.underlying T = some (.slice E)) (hinfo : (Try.prog.info? E).map (fun i => (i.zero, i.size, i.bytes)) = some (some z, k, bz)) (hz : z.cells.size = k) (hhd : hd.length = n0 * k) (hh1 : ∀ u ∈ hd, u.oneCell' = true)
    (h : OwnK w o t k (.slice (some ⟨g, 0, none⟩) n cap) n cs) (hi : i < n) (hn0 : n0 ≤ 1) (hb : (n + 1) * bz ≤ 140737488355328) (hb2 : n + 1 ≤ 140737488355328) :
    ∃ a1 c1 w1 a2 c2 w2 o2, (Builtin.append_ #[T, T] T #[.slice (some ⟨w.heap.size, 0, none⟩) n0 n0, .slice (some ⟨g, 0, none⟩) i cap]).run Try.prog (w.alloc (.cells hd.toArray E)) = .ok (.slice a1 (n0 + i) c1) w1 ∧
      (Builtin.append_ #[T, T] T #[.slice a1 (n0 + i) c1, .slice (some (cutA g (i + 1) cap k)) (n - (i + 1)) (cap - (i + 1))]).run Try.prog w1 = .ok (.slice a2 (n0 + (n - 1)) c2) w2 ∧
      OwnK w2 o2 t k (.slice a2 (n0 + (n - 1)) c2) (n0 + (n - 1)) (hd ++ (cs.take (i * k) ++ cs.drop ((i + 1) * k))) ∧ (∀ U, Fr U o o2 w w2) ∧ Below w.heap.size w w1 := by
  obtain ⟨q, hq⟩ : ∃ q : (Nat → Nat × Nat), q = lab (fun _ => (5, 5)) g (6, 6) := ⟨_, rfl⟩
  have qg : q g = (6, 6) := by rw [hq]; exact lab_same _ _ _
  have qn : ∀ b, q b ≠ (7, 7) := fun b e => by
    rw [hq] at e
    by_cases hbg : b = g
    · subst hbg; rw [lab_same] at e; cases e
    · rw [lab_other _ _ _ hbg] at e; cases e
  have h0 := h.mark (o' := q) qg
  have A1 : Fr (fun _ => False) q (lab q w.heap.size (7, 7)) w (w.alloc (.cells hd.toArray E)) := Fr.new _ q w _ _
  have h1 := h0.fr A1 (fun x => x)
  have d1 : OwnK (w.alloc (.cells hd.toArray E)) (lab q w.heap.size (7, 7)) (7, 7) k (.slice (some ⟨w.heap.size, 0, none⟩) n0 n0) n0 hd := by
    have := own_new (w := w) (o := q) (t := (7, 7)) (k := k) (n := n0) (cap := n0) (e := E) hd #[] hhd hh1 (Nat.le_refl _) (by unfold maxLen; omega) (by simp)
    rw [Array.append_empty] at this
    exact this
  obtain ⟨v1, w1, q1, r1, O1, F1⟩ := app_own (t := (7, 7)) T T E z bz ht hinfo hz d1 ((h1.cut i (by omega)).src ht) (Nat.le_trans (Nat.mul_le_mul_right _ (by omega)) hb) (by omega)
  obtain ⟨a1, c1, rfl, _⟩ := O1.form
  have h2 := h1.fr F1 (fun e => by cases e)
  obtain ⟨v2, w2, q2, r2, O2, F2⟩ := app_own (t := (7, 7)) T T E z bz ht hinfo hz O1 (src_drop ht h2 (i + 1) (by omega)) (Nat.le_trans (Nat.mul_le_mul_right _ (by omega)) hb) (by omega)
  rw [show n0 + i + (n - (i + 1)) = n0 + (n - 1) by omega, List.append_assoc] at O2
  obtain ⟨a2, c2, rfl, _⟩ := O2.form
  have FF : Fr (fun t => t = (7, 7)) q q2 w w2 := ((A1.mono (fun _ h => h.elim)).trans F1).trans F2
  obtain ⟨o2, hO, hF⟩ := own_fresh (o := o) (t := t) O2 (fun b hb => by rw [FF.lab b hb]; exact qn b) (FF.below (Nat.le_refl _) (fun b _ => qn b))
  exact ⟨a1, c1, w1, a2, c2, w2, o2, r1, r2, hO, hF, Fr.below ((A1.mono (fun _ h => h.elim)).trans F1) (Nat.le_refl _) (fun b _ => qn b)⟩
theorem elem47 : Try.prog.underlying 47 = some (.slice (Try.prog.elem 47)) := by kernel_rfl
theorem elem47' : Try.prog.elem 47 = 53 := by kernel_rfl
theorem size53' (w : World) : (sizeOf 53).run Try.prog w = .ok 4 w := by kernel_rfl
/-- What a call leaves of the reference. -/
def RefP (w : World) (o : Nat → Nat × Nat) (Y : Nat) (z : Sp) (w' : World) : Prop := ∃ o', IsRef w' o' Y z ∧ Fr TR o o' w w'
/-- The reference's store while its slab is another one. -/
structure RB (w : World) (o : Nat → Nat × Nat) (Y : Nat) (l : List It) (s : St) (S : Nat) (v : Value) : Prop where
  oY : o Y = (4, 0)
  c0 : w.cell? ⟨Y, 0, none⟩ = some (.pointer (some ⟨S, 0, none⟩))
  c1 : w.cell? ⟨Y, 1, none⟩ = some v
  fz : ∀ j, w.frozen? ⟨Y, j, none⟩ = false
  li : OwnK w o (4, 1) 4 v l.length (itc l)
  slab : RSlab w o 5 S s
theorem IsRS.rb {w : World} {o : Nat → Nat × Nat} {Y : Nat} {z : Sp} {S : Nat} {v : Value} (h : IsRS w o Y z S v) : RB w o Y z.l z.s S v := ⟨h.oY, h.c0, h.c1, h.fz, h.li, h.slab⟩
theorem RB.is {w : World} {o : Nat → Nat × Nat} {Y : Nat} {z : Sp} {S : Nat} {v : Value} (h : RB w o Y z.l z.s S v) (ok : OkSp z) : IsRef w o Y z := ⟨S, v, h.oY, h.c0, h.c1, h.fz, h.li, h.slab, ok⟩
theorem RB.lt {w : World} {o : Nat → Nat × Nat} {Y : Nat} {l : List It} {s : St} {S : Nat} {v : Value} (h : RB w o Y l s S v) : Y < w.heap.size := World.block_lt_of_cell? _ _ h.c0
theorem RB.fr {T : Nat × Nat → Prop} {w w' : World} {o o' : Nat → Nat × Nat} {Y : Nat} {l : List It} {s : St} {S : Nat} {v : Value} (h : RB w o Y l s S v) (f : Fr T o o' w w') (hT : ∀ t, TR t → ¬ T t) : RB w' o' Y l s S v := by
  have hY : ¬ T (o Y) := by rw [h.oY]; exact hT _ (TR.mk4 0)
  exact ⟨(f.lab Y h.lt).trans h.oY, f.cell h.c0 hY, f.cell h.c1 hY, fun j => (f.frozen h.lt hY).trans (h.fz j), h.li.fr f (hT _ (TR.mk4 1)), h.slab.fr f (fun _ => hT _ (TR.mk5 _))⟩
theorem RB.below {w w' : World} {o : Nat → Nat × Nat} {Y : Nat} {l : List It} {s : St} {S : Nat} {v : Value} (h : RB w o Y l s S v) (hb : Below w.heap.size w w') : RB w' o Y l s S v := h.fr (Fr.ofBelow (fun _ => False) o hb) (fun _ _ x => x)
/-- The slab turns. -/
theorem RB.slabs {w w' : World} {o o' : Nat → Nat × Nat} {Y : Nat} {l : List It} {s s' : St} {S : Nat} {v : Value} (h : RB w o Y l s S v) (f : Fr (fun t => t.1 = 5) o o' w w') (hs : RSlab w' o' 5 S s') : RB w' o' Y l s' S v := by
  have hY : ¬ (o Y).1 = 5 := by rw [h.oY]; decide
  exact ⟨(f.lab Y h.lt).trans h.oY, f.cell h.c0 hY, f.cell h.c1 hY, fun j => (f.frozen h.lt hY).trans (h.fz j), h.li.fr f (by decide), hs⟩
/-- The list told anew. -/
theorem RB.set {w w1 : World} {o o1 : Nat → Nat × Nat} {Y : Nat} {l l' : List It} {s : St} {S : Nat} {v v' : Value} (h : RB w o Y l s S v) (f : ∀ U, Fr U o o1 w w1) (hl : OwnK w1 o1 (4, 1) 4 v' l'.length (itc l')) : RB (w1.setCell ⟨Y, 1, none⟩ v') o1 Y l' s S v' ∧ Fr TR o o1 w (w1.setCell ⟨Y, 1, none⟩ v') := by
  have g := h.fr (f (fun _ => False)) (fun _ _ x => x)
  have fs : Fr (fun t => t = (4, 0)) o1 o1 w1 (w1.setCell ⟨Y, 1, none⟩ v') := Fr.set (a := ⟨Y, 1, none⟩) g.oY v'
  refine ⟨⟨g.oY, ?_, World.cell?_setCell_same _ _ _ g.c1, fun j => by rw [World.frozen?_setCell]; exact g.fz j, hl.fr fs (by decide), g.slab.fr fs (fun _ e => by cases e)⟩, (f _).trans (fs.mono (fun t e => by rw [e]; exact TR.mk4 0))⟩
  rw [World.cell?_setCell_other _ _ _ _ (fun e => by injection e with _ e; cases e)]; exact g.c0
theorem itc_out {pre post : List It} {i : It} : (itc (pre ++ i :: post)).take (pre.length * 4) ++ (itc (pre ++ i :: post)).drop ((pre.length + 1) * 4) = itc (pre ++ post) := by
  rw [itc_take, itc_drop, ← itc_append]
  congr 1
  rw [List.take_left', show (pre ++ i :: post).drop (pre.length + 1) = post by rw [List.drop_append]; simp]
  rfl
end Go.Proofs.Ytbflcnghpkmcoaa
