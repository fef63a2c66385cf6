/-
  LISTS OF THE CALL'S OWN: parts of them; one element taken out, into new memory; marks given anew; append as a step of a region that draws.
-/
import Derived.Test.YtaflabjeddckeaaLedger
import Derived.Deep.RegionLaw
namespace Go.Proofs.Ytaflabjeddckeaa
open Go.RowKit

/-- append as a step of a region that draws: its run is known. -/
theorem step_app {P : Program} {ops : Array Oper} {o : Oper} {a : Act} {w w' : World} {K : Act → World → Prop} {Q : Exit → Act → World → Prop} {E : Prop} (hgd : o.guard = none) (s x : Operand) (t tx : TypeId)
    (ho : o.op = .call { callee := .builtin .append, args := #[s, x], argTypes := #[t, tx] }) (v xv v' : Value) (hs : a.eval s = v) (hx : a.eval x = xv)
    (hr : (Builtin.append_ #[t, tx] o.type #[v, xv]).run P w = .ok v' w') (h : K (a.put o.dst v') w') :
    if Region.wanted o (yielded ops a.tmps) = true then Oper.wp P o a w K Q else E := by
  rw [if_pos (by simp [Region.wanted, hgd])]
  unfold Oper.wp execOp
  simp only [ho, resolve, invoke, builtin, Sem.run_bind, Sem.run_pure, Result.andThen_ok, List.map_toArray, List.map_cons, List.map_nil, hs, hx, hr]
  exact h
/-- The address of a part. -/
def cutA (g l cap k : Nat) : Addr := if cap = l then ⟨g, 0, none⟩ else ⟨g, l * k, none⟩
theorem slice_hiT (T E : TypeId) (k : Nat) (el : Try.prog.underlying T = some (.slice (Try.prog.elem T))) (ee : Try.prog.elem T = E) (sE : ∀ w : World, (sizeOf E).run Try.prog w = .ok k w) (g len cap h : Nat) (hh : h ≤ cap) (w : World) :
    (Instr.sliceAt T (.slice (some ⟨g, 0, none⟩) len cap) none (some (.int .i64 (h : Int))) none).run Try.prog w = .ok (.slice (some ⟨g, 0, none⟩) h cap) w := by
  rw [run_sliceAt_slice _ _ _ _ _ _ el, run_slice_h _ _ _ _ _ el _ _ (by omega) (by omega), ee, sE]
  have ea : (⟨g, 0, none⟩ : Addr).add 0 = ⟨g, 0, none⟩ := by unfold Addr.add; split <;> simp_all
  simp [sliced, ea]
theorem slice_loT (T E : TypeId) (k : Nat) (el : Try.prog.underlying T = some (.slice (Try.prog.elem T))) (ee : Try.prog.elem T = E) (sE : ∀ w : World, (sizeOf E).run Try.prog w = .ok k w) (g len cap l : Nat) (hl : l ≤ len) (w : World) :
    (Instr.sliceAt T (.slice (some ⟨g, 0, none⟩) len cap) (some (.int .i64 (l : Int))) none none).run Try.prog w = .ok (.slice (some (cutA g l cap k)) (len - l) (cap - l)) w := by
  rw [run_sliceAt_slice _ _ _ _ _ _ el, run_slice_l _ _ _ _ _ el _ _ (by omega) (by omega), ee, sE]
  have ea : (⟨g, 0, none⟩ : Addr).add (l * k) = ⟨g, l * k, none⟩ := by unfold Addr.add; split <;> simp_all
  unfold cutA
  by_cases e : cap = l
  · simp [sliced, e]
  · simp [sliced, e, ea]
/-- A list behind a place, as what is appended. -/
theorem src_drop {w : World} {o : (Nat → Nat × Nat)} {t : Nat × Nat} {k n g cap : Nat} {cs : List Value} {T E : TypeId} (ht : Try.prog.underlying T = some (.slice E)) (h : OwnK w o t k (.slice (some ⟨g, 0, none⟩) n cap) n cs) (l : Nat) (hl : l ≤ n) :
    Src Try.prog k T (.slice (some (cutA g l cap k)) (n - l) (cap - l)) (n - l) (cs.drop (l * k)) w := by
  obtain ⟨hlen, h1, h⟩ := h
  rcases h with ⟨e, _⟩ | ⟨g', cap', e, h2, h3, h4, h5, h6, h7⟩
  · cases e
  · injection e with e1 e2 e3
    injection e1 with e1
    injection e1 with e1
    subst e1 e3
    refine Src.ofSlice _ ht _ _ _ _ (by rw [List.length_drop, hlen, Nat.sub_mul]) (fun j u hu => ?_) (fun u hu => h1 u (List.mem_of_mem_drop hu))
    have hj := (List.getElem?_eq_some_iff.1 hu).1
    rw [List.length_drop, hlen] at hj
    have hne : ¬ cap = l := fun e => by
      have : n = l := by omega
      rw [this] at hj; omega
    unfold cutA
    rw [if_neg hne]
    have e : (⟨g, l * k, none⟩ : Addr).add j = ⟨g, l * k + j, none⟩ := by unfold Addr.add; split <;> simp_all
    rw [e]
    rw [List.getElem?_drop] at hu
    exact h6 _ _ hu
/-- Other marks. -/
theorem OwnK.mark {w : World} {o o' : (Nat → Nat × Nat)} {t t' : Nat × Nat} {k n g cap : Nat} {cs : List Value} (h : OwnK w o t k (.slice (some ⟨g, 0, none⟩) n cap) n cs) (ho : o' g = t') : OwnK w o' t' k (.slice (some ⟨g, 0, none⟩) n cap) n cs := by
  obtain ⟨hl, h1, h⟩ := h
  rcases h with ⟨e, _⟩ | ⟨g', cap', e, h2, h3, h4, h5, h6, h7⟩
  · cases e
  · injection e with e1 e2 e3
    injection e1 with e1
    injection e1 with e1
    subst e1 e3
    exact ⟨hl, h1, .inr ⟨g, cap, rfl, ho, h3, h4, h5, h6, h7⟩⟩
/-- A list in new memory takes any mark. -/
theorem own_fresh {w w2 : World} {o o2 : (Nat → Nat × Nat)} {t t' : Nat × Nat} {k n : Nat} {v : Value} {cs : List Value} (h : OwnK w2 o2 t' k v n cs) (hn : ∀ b, b < w.heap.size → o2 b ≠ t') (hb : Below w.heap.size w w2) :
    ∃ o', OwnK w2 o' t k v n cs ∧ ∀ U, Fr U o o' w w2 := by
  have hh := h
  obtain ⟨hl, h1, h⟩ := h
  rcases h with ⟨rfl, rfl⟩ | ⟨g, cap, rfl, h2, h3, h4, h5, h6, h7⟩
  · exact ⟨o, ⟨hl, h1, .inl ⟨rfl, rfl⟩⟩, fun U => Fr.ofBelow U o hb⟩
  · have hg : w.heap.size ≤ g := Nat.le_of_not_lt fun e => hn g e h2
    exact ⟨lab o g t, hh.mark (lab_same _ _ _), fun U => ⟨hb.os, hb.tape, hb.output, hb.size, fun b hb => lab_other _ _ _ (by omega), fun b h _ => hb.block b h⟩⟩
/-- append(append([]T{}, l[:i]...), l[i+1:]...). -/
theorem erase_own {w : World} {o : (Nat → Nat × Nat)} {t : Nat × Nat} {k n g cap i : Nat} {cs : List Value} (T E : TypeId) (z : Value) (bz : Nat) (ht : Try.prog.underlying T = some (.slice E)) (hinfo : (Try.prog.info? E).map (fun i => (i.zero, i.size, i.bytes)) = some (some z, k, bz)) (hz : z.cells.size = k)
    (h : OwnK w o t k (.slice (some ⟨g, 0, none⟩) n cap) n cs) (hi : i < n) (hb : n * bz ≤ 140737488355328) (hb2 : n ≤ 140737488355328) :
    ∃ a1 c1 w1 a2 c2 w2 o2, (Builtin.append_ #[T, T] T #[.slice (some ⟨w.heap.size, 0, none⟩) 0 0, .slice (some ⟨g, 0, none⟩) i cap]).run Try.prog (w.alloc (.cells #[] E)) = .ok (.slice a1 i c1) w1 ∧
      (Builtin.append_ #[T, T] T #[.slice a1 i c1, .slice (some (cutA g (i + 1) cap k)) (n - (i + 1)) (cap - (i + 1))]).run Try.prog w1 = .ok (.slice a2 (n - 1) c2) w2 ∧
      OwnK w2 o2 t k (.slice a2 (n - 1) c2) (n - 1) (cs.take (i * k) ++ cs.drop ((i + 1) * k)) ∧ ∀ U, Fr U o o2 w w2 := by
  have hgl : g < w.heap.size := by
    obtain ⟨_, _, h⟩ := h
    rcases h with ⟨e, _⟩ | ⟨g', cap', e, h2, h3, _⟩
    · cases e
    · injection e with e1 e2 e3
      injection e1 with e1
      injection e1 with e1
      subst e1; exact h3
  obtain ⟨q, hq⟩ : ∃ q : (Nat → Nat × Nat), q = lab (fun _ => (5, 5)) g (6, 6) := ⟨_, rfl⟩
  have qg : q g = (6, 6) := by rw [hq]; exact lab_same _ _ _
  have qn : ∀ b, q b ≠ (7, 7) := fun b e => by
    rw [hq] at e
    by_cases hbg : b = g
    · subst hbg; rw [lab_same] at e; cases e
    · rw [lab_other _ _ _ hbg] at e; cases e
  have h0 := h.mark (o' := q) qg
  have A1 : Fr (fun _ => False) q (lab q w.heap.size (7, 7)) w (w.alloc (.cells #[] E)) := Fr.new _ q w _ _
  have h1 := h0.fr A1 (fun x => x)
  have d1 : OwnK (w.alloc (.cells #[] E)) (lab q w.heap.size (7, 7)) (7, 7) k (.slice (some ⟨w.heap.size, 0, none⟩) 0 0) 0 [] := by
    have := own_new (w := w) (o := q) (t := (7, 7)) (k := k) (n := 0) (cap := 0) (e := E) [] #[] (by simp) (fun _ h => by cases h) (Nat.le_refl _) (by unfold maxLen; omega) (by simp)
    simpa using this
  obtain ⟨v1, w1, q1, r1, O1, F1⟩ := app_own (t := (7, 7)) T T E z bz ht hinfo hz d1 ((h1.cut i (by omega)).src ht) (Nat.le_trans (Nat.mul_le_mul_right _ (by omega)) hb) (by omega)
  rw [Nat.zero_add] at O1
  obtain ⟨a1, c1, rfl, _⟩ := O1.form
  have h2 := h1.fr F1 (fun e => by cases e)
  obtain ⟨v2, w2, q2, r2, O2, F2⟩ := app_own (t := (7, 7)) T T E z bz ht hinfo hz O1 (src_drop ht h2 (i + 1) (by omega)) (Nat.le_trans (Nat.mul_le_mul_right _ (by omega)) hb) (by omega)
  rw [show i + (n - (i + 1)) = n - 1 by omega, List.nil_append] at O2
  obtain ⟨a2, c2, rfl, _⟩ := O2.form
  have FF : Fr (fun t => t = (7, 7)) q q2 w w2 := ((A1.mono (fun _ h => h.elim)).trans F1).trans F2
  obtain ⟨o2, hO, hF⟩ := own_fresh (o := o) (t := t) O2 (fun b hb => by rw [FF.lab b hb]; exact qn b) (FF.below (Nat.le_refl _) (fun b _ => qn b))
  exact ⟨a1, c1, w1, a2, c2, w2, o2, r1, r2, hO, hF⟩
end Go.Proofs.Ytaflabjeddckeaa
