/-
  THE REFERENCE's MODEL: parts of lists; its memory.
-/
import Derived.Test.YtpkmfckifnomeaaDoorOrp
import Derived.Test.YtpkmfckifnomeaaDoorSm
import Derived.Test.YtpkmfckifnomeaaDoorSf
import Derived.Laws.IdiomCopy
namespace Go.Proofs.YtpkmfckifnomeaaDoor
open Go.RowKit

theorem step_app {P : Program} {ops : Array Oper} {o : Oper} {a : Act} {w w' : World} {K : Act → World → Prop} {Q : Exit → Act → World → Prop} {E : Prop} (hgd : o.guard = none) (s x : Operand) (t tx : TypeId)
    (ho : o.op = .call { callee := .builtin .append, args := #[s, x], argTypes := #[t, tx] }) (v xv v' : Value) (hs : a.eval s = v) (hx : a.eval x = xv)
    (hr : (Builtin.append_ #[t, tx] o.type #[v, xv]).run P w = .ok v' w') (h : K (a.put o.dst v') w') :
    if Region.wanted o (yielded ops a.tmps) = true then Oper.wp P o a w K Q else E := by
  rw [if_pos (by simp [Region.wanted, hgd])]
  unfold Oper.wp execOp
  simp only [ho, resolve, invoke, builtin, Sem.run_bind, Sem.run_pure, Result.andThen_ok, List.map_toArray, List.map_cons, List.map_nil, hs, hx, hr]
  exact h
/-- append as a step of a region that draws, its run given ahead: it names the world. -/
theorem step_app4 {P : Program} {ops : Array Oper} {o : Oper} {a : Act} {w : World} {K : Act → World → Prop} {Q : Exit → Act → World → Prop} {E : Prop} {X w' : World} {v xv v' : Value} {t : TypeId} (hr : (Builtin.append_ #[t, t] t #[v, xv]).run P X = .ok v' w') (s x : Operand)
    (hw : w = X) (hgd : o.guard = none) (ho : o.op = .call { callee := .builtin .append, args := #[s, x], argTypes := #[t, t] }) (ht : o.type = t) (hs : a.eval s = v) (hx : a.eval x = xv) (hk : K (a.put o.dst v') w') :
    if Region.wanted o (yielded ops a.tmps) = true then Oper.wp P o a w K Q else E := by
  subst hw
  exact step_app hgd s x t t ho v xv v' hs hx (by rw [ht]; exact hr) hk
theorem cell_up {w w' : World} {b off : Nat} {v : Value} (hb : Below w.heap.size w w') (h : w.cell? ⟨b, off, none⟩ = some v) : w'.cell? ⟨b, off, none⟩ = some v := (Fr.ofBelow (fun _ => False) (fun _ => (0, 0)) hb).cell h id
theorem new_up {w : World} {b o : Nat} {v : Value} (c : Obj) (h : w.cell? ⟨b, o, none⟩ = some v) : (w.alloc c).cell? ⟨b, o, none⟩ = some v := cell_up ((Below.refl _ _).alloc (Nat.le_refl _) c) h

/-- The address of a part. -/
def cutA (g l cap k : Nat) : Addr := if cap = l then ⟨g, 0, none⟩ else ⟨g, l * k, none⟩
theorem slice_hiT (T E : TypeId) (k : Nat) (el : Tryd.prog.underlying T = some (.slice (Tryd.prog.elem T))) (ee : Tryd.prog.elem T = E) (sE : ∀ w : World, (sizeOf E).run Tryd.prog w = .ok k w) (g len cap h : Nat) (hh : h ≤ cap) (w : World) :
    (Instr.sliceAt T (.slice (some ⟨g, 0, none⟩) len cap) none (some (.int .i64 (h : Int))) none).run Tryd.prog w = .ok (.slice (some ⟨g, 0, none⟩) h cap) w := by
  rw [run_sliceAt_slice _ _ _ _ _ _ el, run_slice_h _ _ _ _ _ el _ _ (by omega) (by omega), ee, sE]
  have ea : (⟨g, 0, none⟩ : Addr).add 0 = ⟨g, 0, none⟩ := by unfold Addr.add; split <;> simp_all
  simp [sliced, ea]
theorem slice_loT (T E : TypeId) (k : Nat) (el : Tryd.prog.underlying T = some (.slice (Tryd.prog.elem T))) (ee : Tryd.prog.elem T = E) (sE : ∀ w : World, (sizeOf E).run Tryd.prog w = .ok k w) (g len cap l : Nat) (hl : l ≤ len) (w : World) :
    (Instr.sliceAt T (.slice (some ⟨g, 0, none⟩) len cap) (some (.int .i64 (l : Int))) none none).run Tryd.prog w = .ok (.slice (some (cutA g l cap k)) (len - l) (cap - l)) w := by
  rw [run_sliceAt_slice _ _ _ _ _ _ el, run_slice_l _ _ _ _ _ el _ _ (by omega) (by omega), ee, sE]
  have ea : (⟨g, 0, none⟩ : Addr).add (l * k) = ⟨g, l * k, none⟩ := by unfold Addr.add; split <;> simp_all
  unfold cutA
  by_cases e : cap = l
  · simp [sliced, e]
  · simp [sliced, e, ea]
/-- A list behind a place, as what is appended. -/
theorem src_drop {w : World} {o : (Nat → Nat × Nat)} {t : Nat × Nat} {k n g cap : Nat} {cs : List Value} {T E : TypeId} (ht : Tryd.prog.underlying T = some (.slice E)) (h : OwnK w o t k (.slice (some ⟨g, 0, none⟩) n cap) n cs) (l : Nat) (hl : l ≤ n) :
    Src Tryd.prog k T (.slice (some (cutA g l cap k)) (n - l) (cap - l)) (n - l) (cs.drop (l * k)) w := by
  obtain ⟨hlen, h1, h⟩ := h
  rcases h with ⟨e, _⟩ | ⟨g', cap', e, h2, h3, h4, h5, h6, h7⟩
  · cases e
  · injection e with e1 e2 e3
    injection e1 with e1
    injection e1 with e1
    subst e1 e3
    refine Src.ofSlice _ ht _ _ _ _ (by rw [List.length_drop, hlen, Nat.sub_mul]) (fun j u hu => ?_) (fun u hu => h1 u (List.mem_of_mem_drop hu))
    have hj := (List.getElem?_eq_some_iff.1 hu).1
    rw [List.length_drop, hlen] at hj
    have hne : ¬ cap = l := fun e => by
      have : n = l := by omega
      rw [this] at hj; omega
    unfold cutA
    rw [if_neg hne]
    have e : (⟨g, l * k, none⟩ : Addr).add j = ⟨g, l * k + j, none⟩ := by unfold Addr.add; split <;> simp_all
    rw [e]
    rw [List.getElem?_drop] at hu
    exact h6 _ _ hu
/-- Other marks. -/
theorem OwnK.mark {w : World} {o o' : (Nat → Nat × Nat)} {t t' : Nat × Nat} {k n g cap : Nat} {cs : List Value} (h : OwnK w o t k (.slice (some ⟨g, 0, none⟩) n cap) n cs) (ho : o' g = t') : OwnK w o' t' k (.slice (some ⟨g, 0, none⟩) n cap) n cs := by
  obtain ⟨hl, h1, h⟩ := h
  rcases h with ⟨e, _⟩ | ⟨g', cap', e, h2, h3, h4, h5, h6, h7⟩
  · cases e
  · injection e with e1 e2 e3
    injection e1 with e1
    injection e1 with e1
    subst e1 e3
    exact ⟨hl, h1, .inr ⟨g, cap, rfl, ho, h3, h4, h5, h6, h7⟩⟩
/-- A list in new memory takes any mark. -/
theorem own_fresh {w w2 : World} {o o2 : (Nat → Nat × Nat)} {t t' : Nat × Nat} {k n : Nat} {v : Value} {cs : List Value} (h : OwnK w2 o2 t' k v n cs) (hn : ∀ b, b < w.heap.size → o2 b ≠ t') (hb : Below w.heap.size w w2) :
    ∃ o', OwnK w2 o' t k v n cs ∧ ∀ U, Fr U o o' w w2 := by
  have hh := h
  obtain ⟨hl, h1, h⟩ := h
  rcases h with ⟨rfl, rfl⟩ | ⟨g, cap, rfl, h2, h3, h4, h5, h6, h7⟩
  · exact ⟨o, ⟨hl, h1, .inl ⟨rfl, rfl⟩⟩, fun U => Fr.ofBelow U o hb⟩
  · have hg : w.heap.size ≤ g := Nat.le_of_not_lt fun e => hn g e h2
    exact ⟨lab o g t, hh.mark (lab_same _ _ _), fun U => ⟨hb.os, hb.tape, hb.output, hb.size, fun b hb => lab_other _ _ _ (by omega), fun b h _ => hb.block b h⟩⟩
/-- append(append([]T{}, l[:i]...), l[j:]...), or the first append alone. -/
theorem erase_own {w : World} {o : (Nat → Nat × Nat)} {t : Nat × Nat} (t' : Nat × Nat) {k n g cap i : Nat} {cs : List Value} (T E : TypeId) (z : Value) (bz : Nat) (ht : Tryd.prog.underlying T = some (.slice E)) (hinfo : (Tryd.prog.info? E).map (fun i => (i.zero, i.size, i.bytes)) = some (some z, k, bz)) (hz : z.cells.size = k)
    (h : OwnK w o t k (.slice (some ⟨g, 0, none⟩) n cap) n cs) (hi : i ≤ n) (hb : n * bz ≤ 140737488355328) (hb2 : n ≤ 140737488355328) :
    ∃ a1 c1 w1, (Builtin.append_ #[T, T] T #[.slice (some ⟨w.heap.size, 0, none⟩) 0 0, .slice (some ⟨g, 0, none⟩) i cap]).run Tryd.prog (w.alloc (.cells #[] E)) = .ok (.slice a1 i c1) w1 ∧ Below w.heap.size w w1 ∧
      (∃ o1, OwnK w1 o1 t' k (.slice a1 i c1) i (cs.take (i * k)) ∧ ∀ U, Fr U o o1 w w1) ∧
      (i < n → ∃ a2 c2 w2 o2, (Builtin.append_ #[T, T] T #[.slice a1 i c1, .slice (some (cutA g (i + 1) cap k)) (n - (i + 1)) (cap - (i + 1))]).run Tryd.prog w1 = .ok (.slice a2 (n - 1) c2) w2 ∧
      OwnK w2 o2 t' k (.slice a2 (n - 1) c2) (n - 1) (cs.take (i * k) ++ cs.drop ((i + 1) * k)) ∧ ∀ U, Fr U o o2 w w2) := by
  obtain ⟨q, hq⟩ : ∃ q : (Nat → Nat × Nat), q = lab (fun _ => (5, 5)) g (6, 6) := ⟨_, rfl⟩
  have qg : q g = (6, 6) := by rw [hq]; exact lab_same _ _ _
  have qn : ∀ b, q b ≠ (7, 7) := fun b e => by
    rw [hq] at e
    by_cases hbg : b = g
    · subst hbg; rw [lab_same] at e; cases e
    · rw [lab_other _ _ _ hbg] at e; cases e
  have h0 := h.mark (o' := q) qg
  have A1 : Fr (fun _ => False) q (lab q w.heap.size (7, 7)) w (w.alloc (.cells #[] E)) := Fr.new _ q w _ _
  have h1 := h0.fr A1 (fun x => x)
  have d1 : OwnK (w.alloc (.cells #[] E)) (lab q w.heap.size (7, 7)) (7, 7) k (.slice (some ⟨w.heap.size, 0, none⟩) 0 0) 0 [] := by
    have := own_new (w := w) (o := q) (t := (7, 7)) (k := k) (n := 0) (cap := 0) (e := E) [] #[] (by simp) (fun _ h => by cases h) (Nat.le_refl _) (by unfold maxLen; omega) (by simp)
    simpa using this
  obtain ⟨v1, w1, q1, r1, O1, F1⟩ := app_own (t := (7, 7)) T T E z bz ht hinfo hz d1 ((h1.cut i (by omega)).src ht) (Nat.le_trans (Nat.mul_le_mul_right _ (by omega)) hb) (by omega)
  rw [Nat.zero_add, List.nil_append] at O1
  obtain ⟨a1, c1, rfl, _⟩ := O1.form
  have FF1 : Fr (fun t => t = (7, 7)) q q1 w w1 := (A1.mono (fun _ h => h.elim)).trans F1
  have B1 : Below w.heap.size w w1 := FF1.below (Nat.le_refl _) (fun b _ => qn b)
  refine ⟨a1, c1, w1, r1, B1, own_fresh (o := o) (t := t') O1 (fun b hb => by rw [FF1.lab b hb]; exact qn b) B1, fun hin => ?_⟩
  have h2 := h1.fr F1 (fun e => by cases e)
  obtain ⟨v2, w2, q2, r2, O2, F2⟩ := app_own (t := (7, 7)) T T E z bz ht hinfo hz O1 (src_drop ht h2 (i + 1) (by omega)) (Nat.le_trans (Nat.mul_le_mul_right _ (by omega)) hb) (by omega)
  rw [show i + (n - (i + 1)) = n - 1 by omega] at O2
  obtain ⟨a2, c2, rfl, _⟩ := O2.form
  have FF : Fr (fun t => t = (7, 7)) q q2 w w2 := FF1.trans F2
  obtain ⟨o2, hO, hF⟩ := own_fresh (o := o) (t := t') O2 (fun b hb => by rw [FF.lab b hb]; exact qn b) (FF.below (Nat.le_refl _) (fun b _ => qn b))
  exact ⟨a2, c2, w2, o2, r2, hO, hF⟩
theorem elem39 : Tryd.prog.underlying 39 = some (.slice (Tryd.prog.elem 39)) := by kernel_rfl
theorem elem39' : Tryd.prog.elem 39 = 49 := by kernel_rfl
theorem size49' (w : World) : (sizeOf 49).run Tryd.prog w = .ok 5 w := by kernel_rfl
/-- The reference's model (of the owner x) at block b holds such entries. -/
structure IsR (w : World) (o : Nat → Nat × Nat) (x b : Nat) (l : List En) : Prop where
  ob : o b = (x, 0)
  fz : w.frozen? ⟨b, 0, none⟩ = false
  li : ∃ a c, w.cell? ⟨b, 0, none⟩ = some (.slice a l.length c) ∧ OwnK w o (x, 1) 5 (.slice a l.length c) l.length (ecs l)
theorem IsR.lt {w : World} {o : Nat → Nat × Nat} {x b : Nat} {l : List En} (h : IsR w o x b l) : b < w.heap.size := by
  obtain ⟨a, c, h1, _⟩ := h.li
  exact World.block_lt_of_cell? _ _ h1
theorem IsR.fr {T : Nat × Nat → Prop} {w w' : World} {o o' : Nat → Nat × Nat} {x b : Nat} {l : List En} (h : IsR w o x b l) (f : Fr T o o' w w') (h0 : ¬ T (x, 0)) (h1 : ¬ T (x, 1)) : IsR w' o' x b l := by
  obtain ⟨a, c, hc, hl⟩ := h.li
  have hb : ¬ T (o b) := by rw [h.ob]; exact h0
  exact ⟨(f.lab b h.lt).trans h.ob, (f.frozen h.lt hb).trans h.fz, a, c, f.cell hc hb, hl.fr f h1⟩
theorem IsR.below {w w' : World} {o : Nat → Nat × Nat} {x b : Nat} {l : List En} (h : IsR w o x b l) (hb : Below w.heap.size w w') : IsR w' o x b l := h.fr (Fr.ofBelow (fun _ => False) o hb) id id
/-- The slice told anew. -/
theorem IsR.set {w w1 : World} {o o1 : Nat → Nat × Nat} {x b : Nat} {l l' : List En} {a : Option Addr} {n c : Nat} (h : IsR w o x b l) (f : Fr (· = (x, 1)) o o1 w w1) (hn : n = l'.length) (hl : OwnK w1 o1 (x, 1) 5 (.slice a n c) n (ecs l')) :
    IsR (w1.setCell ⟨b, 0, none⟩ (.slice a n c)) o1 x b l' ∧ Fr (·.1 = x) o o1 w (w1.setCell ⟨b, 0, none⟩ (.slice a n c)) := by
  subst hn
  obtain ⟨a0, c0, h0, _⟩ := h.li
  have hb : ¬ (o b = (x, 1)) := by rw [h.ob]; intro e; cases e
  have ob1 : o1 b = (x, 0) := (f.lab b h.lt).trans h.ob
  have fs : Fr (fun t => t = (x, 0)) o1 o1 w1 (w1.setCell ⟨b, 0, none⟩ (.slice a l'.length c)) := Fr.set (a := ⟨b, 0, none⟩) ob1 _
  refine ⟨⟨ob1, ?_, a, c, World.cell?_setCell_same _ _ _ (f.cell h0 hb), hl.fr fs (fun e => by cases e)⟩, (f.mono (fun t e => by rw [e])).trans (fs.mono (fun t e => by rw [e]))⟩
  rw [World.frozen?_setCell]; exact (f.frozen h.lt hb).trans h.fz
/-- One entry's cells. -/
theorem IsR.at_ {w : World} {o : Nat → Nat × Nat} {x : Nat} {l : List En} {a : Option Addr} {c : Nat} (hl : OwnK w o (x, 1) 5 (.slice a l.length c) l.length (ecs l)) {j : Nat} {e : En} (he : l[j]? = some e) : ∃ g, a = some ⟨g, 0, none⟩ ∧ ∀ i u, e.cs[i]? = some u → w.cell? ⟨g, j * 5 + i, none⟩ = some u := by
  have hj := (List.getElem?_eq_some_iff.1 he).1
  obtain ⟨g, cap, e1, _, _, _, _, h6, _⟩ := hl.there (by omega)
  injection e1 with e1
  refine ⟨g, e1, fun i u hu => h6 _ _ ?_⟩
  have hi : i < 5 := (List.getElem?_eq_some_iff.1 hu).1
  rw [ecs_at l he i hi]; exact hu
/-- Where a key stands, or would. -/
def pos (k : B) : List En → Nat
  | [] => 0
  | y :: r => if bytesBefore (L y.key) k then pos k r + 1 else 0
theorem pos_le (k : B) : ∀ l : List En, pos k l ≤ l.length
  | [] => Nat.le_refl _
  | y :: r => by
    unfold pos
    split
    · have := pos_le k r; simp; omega
    · exact Nat.zero_le _
/-- Ahead of it all keys are less. -/
theorem pos_lt (k : B) : ∀ (l : List En) (j : Nat) (e : En), l[j]? = some e → j < pos k l → bytesBefore (L e.key) k = true
  | [], j, e, h, _ => by simp at h
  | y :: r, j, e, h, hj => by
    unfold pos at hj
    split at hj
    · rename_i hb
      cases j with
      | zero => simp at h; subst h; exact hb
      | succ j => exact pos_lt k r j e (by simpa using h) (by omega)
    · omega
theorem pos_at (k : B) : ∀ (l : List En) (e : En), l[pos k l]? = some e → bytesBefore (L e.key) k = false
  | [], e, h => by simp [pos] at h
  | y :: r, e, h => by
    unfold pos at h
    split at h
    · exact pos_at k r e (by simpa using h)
    · rename_i hb
      simp at h; subst h; simpa using hb
/-- A key that is there stands at its place. -/
theorem pos_look {l : List En} (hs : Srt l) (k : B) : look k l = (l[pos k l]?).filter fun e => L e.key == k := by
  induction l with
  | nil => rfl
  | cons y r ih =>
    obtain ⟨h1, h2⟩ := List.pairwise_cons.1 hs
    unfold YtpkmfckifnomeaaDoor.look pos
    rw [List.find?_cons]
    cases hb : bytesBefore (L y.key) k with
    | true =>
      have : (L y.key == k) = false := by
        simp only [beq_eq_false_iff_ne]; intro e; rw [e, bb_irrefl] at hb; cases hb
      rw [this]
      have ih' := ih h2
      unfold YtpkmfckifnomeaaDoor.look at ih'
      simpa using ih'
    | false =>
      simp only [Bool.false_eq_true, if_false, List.getElem?_cons_zero]
      cases he : (L y.key == k) with
      | true => simp [Option.filter, he]
      | false =>
        have hn : r.find? (fun e => L e.key == k) = none := by
          rw [List.find?_eq_none]
          intro z hz hk
          have hz1 := h1 z hz
          rw [eq_of_beq hk] at hz1
          rw [hz1] at hb; cases hb
        simp [Option.filter, he, hn]
/-- The first that has the key. -/
def fst_ (k : B) : List En → Nat
  | [] => 0
  | y :: r => if L y.key == k then 0 else fst_ k r + 1
theorem fst_le (k : B) : ∀ l : List En, fst_ k l ≤ l.length
  | [] => Nat.le_refl _
  | y :: r => by
    unfold fst_
    split
    · exact Nat.zero_le _
    · have := fst_le k r; simp; omega
theorem fst_lt (k : B) : ∀ (l : List En) (j : Nat) (e : En), l[j]? = some e → j < fst_ k l → (L e.key == k) = false
  | [], j, e, h, _ => by simp at h
  | y :: r, j, e, h, hj => by
    unfold fst_ at hj
    split at hj
    · omega
    · rename_i hb
      cases j with
      | zero => simp at h; subst h; simpa using hb
      | succ j => exact fst_lt k r j e (by simpa using h) (by omega)
theorem fst_at (k : B) : ∀ (l : List En) (e : En), l[fst_ k l]? = some e → (L e.key == k) = true
  | [], e, h => by simp [fst_] at h
  | y :: r, e, h => by
    unfold fst_ at h
    split at h
    · rename_i hb
      simp at h; subst h; exact hb
    · exact fst_at k r e (by simpa using h)
theorem fst_look (k : B) : ∀ l : List En, (look k l).isSome = decide (fst_ k l < l.length)
  | [] => rfl
  | y :: r => by
    have ih := fst_look k r
    unfold YtpkmfckifnomeaaDoor.look at ih ⊢
    unfold fst_
    rw [List.find?_cons]
    cases he : (L y.key == k) with
    | true => simp
    | false => simp [ih]
theorem fst_none {k : B} {l : List En} (h : ¬ fst_ k l < l.length) : del k l = l := by
  unfold YtpkmfckifnomeaaDoor.del
  rw [List.filter_eq_self]
  intro e he
  obtain ⟨j, hj⟩ := List.getElem?_of_mem he
  have h1 := (List.getElem?_eq_some_iff.1 hj).1
  rw [fst_lt k l j e hj (by have := fst_le k l; omega)]
  rfl
/-- Taken out of a list by rising keys. -/
theorem fst_del {l : List En} (hs : Srt l) (k : B) (h : fst_ k l < l.length) : del k l = l.take (fst_ k l) ++ l.drop (fst_ k l + 1) := by
  induction l with
  | nil => simp at h
  | cons y r ih =>
    obtain ⟨h1, h2⟩ := List.pairwise_cons.1 hs
    unfold fst_ at h ⊢
    unfold YtpkmfckifnomeaaDoor.del at ih ⊢
    rw [List.filter_cons]
    cases he : (L y.key == k) with
    | true =>
      have hn : r.filter (fun e => !(L e.key == k)) = r := by
        rw [List.filter_eq_self]
        intro z hz
        cases hk : (L z.key == k) with
        | false => rfl
        | true =>
          have hz1 := h1 z hz
          rw [eq_of_beq hk, ← eq_of_beq he, bb_irrefl] at hz1; cases hz1
      simp [hn]
    | false =>
      rw [he] at h
      simp only [Bool.not_false, if_true, Bool.false_eq_true, if_false, List.take_succ_cons, List.drop_succ_cons, List.cons_append]
      rw [ih h2 (by simpa using h)]
/-- ins, by its place. -/
theorem ins_pos (e : En) : ∀ l : List En, (∀ y ∈ l, L y.key ≠ L e.key) → ins e l = l.take (pos (L e.key) l) ++ e :: l.drop (pos (L e.key) l)
  | [], _ => rfl
  | y :: r, hne => by
    unfold YtpkmfckifnomeaaDoor.ins pos
    cases hb : bytesBefore (L y.key) (L e.key) with
    | true =>
      have : bytesBefore (L e.key) (L y.key) = false := by
        cases hh : bytesBefore (L e.key) (L y.key) with
        | false => rfl
        | true => have := bb_trans _ _ _ hb hh; rw [bb_irrefl] at this; cases this
      rw [this]
      simp only [Bool.false_eq_true, if_false, if_true, List.take_succ_cons, List.drop_succ_cons, List.cons_append]
      rw [ins_pos e r (fun z hz => hne z (List.mem_cons_of_mem _ hz))]
    | false =>
      have : bytesBefore (L e.key) (L y.key) = true := by
        rcases bb_total (L y.key) (L e.key) with h | h | h
        · exact absurd h (hne y List.mem_cons_self)
        · rw [h] at hb; cases hb
        · exact h
      rw [this]
      simp
theorem ecs_app (a b : List En) : ecs (a ++ b) = ecs a ++ ecs b := by simp [ecs]
theorem ecs_take (l : List En) (i : Nat) : (ecs l).take (i * 5) = ecs (l.take i) := by
  induction l generalizing i with
  | nil => simp [ecs]
  | cons e l ih =>
    cases i with
    | zero => simp [ecs]
    | succ i =>
      have h1 : ecs (e :: l) = e.cs ++ ecs l := rfl
      have h2 : ecs (e :: l.take i) = e.cs ++ ecs (l.take i) := rfl
      rw [List.take_succ_cons, h2, h1, show (i + 1) * 5 = e.cs.length + i * 5 by rw [En.len]; omega, List.take_length_add_append, ih]
theorem ecs_drop (l : List En) (i : Nat) : (ecs l).drop (i * 5) = ecs (l.drop i) := by
  induction l generalizing i with
  | nil => simp [ecs]
  | cons e l ih =>
    cases i with
    | zero => simp [ecs]
    | succ i =>
      have h1 : ecs (e :: l) = e.cs ++ ecs l := rfl
      rw [List.drop_succ_cons, h1, show (i + 1) * 5 = e.cs.length + i * 5 by rw [En.len]; omega, List.drop_length_add_append, ih]
end Go.Proofs.YtpkmfckifnomeaaDoor
