/-
  A LAW's OWN FRAME in a box: its fields written.
-/
import Derived.Test.YtfinaichajbnkaaGreatPla
import Derived.Test.YtfinaichajbnkaaGreatPsn
namespace Go.Proofs.YtfinaichajbnkaaGreat
open Go.RowKit
open Wi (F)

/-- A cell of a box of the law's own is written. -/
theorem Lw.set {w0 W : World} {o : Nat → Nat × Nat} {X : Nat} {s : Sl} (h : Lw w0 W o X s) {B : Nat} (hB : o B = (8, 1)) (hb : w0.heap.size ≤ B) (j : Nat) (v : Value) : Lw w0 (W.setCell ⟨B, j, none⟩ v) o X s :=
  ⟨h.I.fr (Fr.set (T := (· = (8, 1))) (a := ⟨B, j, none⟩) hB v) nTP8, h.G.setNew (a := ⟨B, j, none⟩) hb v⟩
theorem Lw.ge {w0 W : World} {o : Nat → Nat × Nat} {X : Nat} {s : Sl} (h : Lw w0 W o X s) : w0.heap.size ≤ W.heap.size := h.fin.size
theorem KC.set1 {W : World} {o : Nat → Nat × Nat} {A : Nat} {a : F} (h : KC W o A a) (x : Int) : KC (W.setCell ⟨A, 1, none⟩ (.int .i64 x)) o A { a with slot := x } :=
  h.set 1 (.int .i64 x) _ (fun i u e => by
    obtain ⟨a0, a1, a2, a3, a4, a5, a6, a7, a8⟩ := a
    rcases i with _ | _ | _ | _ | _ | _ | _ | _ | _ | i <;> first | exact e | (simp [Wi.F.cs] at e ⊢; try exact e)) (by omega)
theorem KC.set2 {W : World} {o : Nat → Nat × Nat} {A : Nat} {a : F} (h : KC W o A a) (x : Int) : KC (W.setCell ⟨A, 2, none⟩ (.int .i64 x)) o A { a with inc := x } :=
  h.set 2 (.int .i64 x) _ (fun i u e => by
    obtain ⟨a0, a1, a2, a3, a4, a5, a6, a7, a8⟩ := a
    rcases i with _ | _ | _ | _ | _ | _ | _ | _ | _ | i <;> first | exact e | (simp [Wi.F.cs] at e ⊢; try exact e)) (by omega)
theorem KC.set3 {W : World} {o : Nat → Nat × Nat} {A : Nat} {a : F} (h : KC W o A a) (x : Int) : KC (W.setCell ⟨A, 3, none⟩ (.int .i64 x)) o A { a with rid := x } :=
  h.set 3 (.int .i64 x) _ (fun i u e => by
    obtain ⟨a0, a1, a2, a3, a4, a5, a6, a7, a8⟩ := a
    rcases i with _ | _ | _ | _ | _ | _ | _ | _ | _ | i <;> first | exact e | (simp [Wi.F.cs] at e ⊢; try exact e)) (by omega)
theorem KC.set4 {W : World} {o : Nat → Nat × Nat} {A : Nat} {a : F} (h : KC W o A a) (x : Int) : KC (W.setCell ⟨A, 4, none⟩ (.int .i64 x)) o A { a with floor := x } :=
  h.set 4 (.int .i64 x) _ (fun i u e => by
    obtain ⟨a0, a1, a2, a3, a4, a5, a6, a7, a8⟩ := a
    rcases i with _ | _ | _ | _ | _ | _ | _ | _ | _ | i <;> first | exact e | (simp [Wi.F.cs] at e ⊢; try exact e)) (by omega)
end Go.Proofs.YtfinaichajbnkaaGreat


namespace Go.Proofs.YtfinaichajbnkaaGreat
open Go.RowKit
open Wi (F sl)

/-- A list of the law's own has turned. -/
theorem Lw.grow {T : Nat × Nat → Prop} {w0 W W' : World} {o o' : Nat → Nat × Nat} {X : Nat} {s : Sl} (h : Lw w0 W o X s) (g : Fr T o o' W W') (hT : ∀ t, TP t → ¬ T t) (h0 : ¬ T (0, 0)) : Lw w0 W' o' X s :=
  ⟨h.I.fr g hT, ⟨g.os.trans h.G.os, g.tape.trans h.G.tape, g.output.trans h.G.output, Nat.le_trans h.G.size g.size, fun b hb => (g.lab b (Nat.lt_of_lt_of_le hb h.G.size)).trans (h.G.lab b hb), fun b hb ht =>
    (g.block b (Nat.lt_of_lt_of_le hb h.G.size) (by rw [h.G.lab b hb]; exact h0)).trans (h.G.block b hb ht)⟩⟩
theorem nTP7 (q : Nat) : ∀ t, TP t → ¬ (t = (7, q)) := fun t h e => by
  rw [e] at h
  rcases h with h | h
  · have : 7 ≤ 3 := h.2; omega
  · have : 7 = 10 := h; omega
theorem nTP7' (q : Nat) : ¬ TP (7, q) := fun h => nTP7 q _ h rfl
theorem n07 (q : Nat) : ¬ ((0, 0) = ((7, q) : Nat × Nat)) := fun e => by injection e with e; omega
theorem sl55l (a : Option Addr) (len cap l : Nat) (hl : l ≤ len) (w : World) : (Instr.sliceAt 55 (.slice a len cap) (some (.int .i64 (l : Int))) none none).run Tryz.prog w = .ok (.slice (sl a l cap) (len - l) (cap - l)) w := by
  rw [run_sliceAt_slice _ _ _ _ _ _ elem55, run_slice_l _ _ _ _ _ elem55 _ _ (by omega) (by omega), elem55', size9']
  rfl
theorem adl (g l : Nat) : (⟨g, 0, none⟩ : Addr).add l = ⟨g, l, none⟩ := by unfold Addr.add; split <;> simp_all
theorem adl2 (g l j : Nat) : (⟨g, l, none⟩ : Addr).add j = ⟨g, l + j, none⟩ := by unfold Addr.add; split <;> simp_all
/-- The first ones, the last ones of a list, as what is appended. -/
theorem OwnK.src_to {w : World} {o : Nat → Nat × Nat} {t : Nat × Nat} {b : Option Addr} {n c : Nat} {cs : List Value} (h : OwnK w o t 1 (.slice b n c) n cs) (q : Nat) (hq : q ≤ n) : Src Tryz.prog 1 55 (.slice b q c) q (cs.take q) w := by
  have hu := und55
  obtain ⟨hl, h1, h⟩ := h
  rcases h with ⟨e, h0⟩ | ⟨g, cap, e, h2, h3, h4, h5, h6, h7⟩
  · injection e with e1 e2 e3
    subst e1 e3
    obtain rfl : q = 0 := by omega
    rw [List.take_zero]
    exact Src.ofNil _ hu 0
  · injection e with e1 e2 e3
    subst e1 e3
    refine Src.ofSlice _ hu _ q _ _ (by rw [List.length_take]; omega) (fun j u hj => ?_) (fun u hu' => h1 u (List.mem_of_mem_take hu'))
    rw [adl]
    rw [List.getElem?_take] at hj
    split at hj
    · exact h6 j u hj
    · cases hj
theorem OwnK.src_at {w : World} {o : Nat → Nat × Nat} {t : Nat × Nat} {b : Option Addr} {n c : Nat} {cs : List Value} (h : OwnK w o t 1 (.slice b n c) n cs) (q : Nat) (hq : q ≤ n) : Src Tryz.prog 1 55 (.slice (sl b q c) (n - q) (c - q)) (n - q) (cs.drop q) w := by
  have hu := und55
  obtain ⟨hl, h1, h⟩ := h
  rcases h with ⟨e, h0⟩ | ⟨g, cap, e, h2, h3, h4, h5, h6, h7⟩
  · injection e with e1 e2 e3
    subst e1 e3
    obtain rfl : q = 0 := by omega
    have : cs = [] := List.eq_nil_of_length_eq_zero (by omega)
    subst this h0
    exact Src.ofNil _ hu 0
  · injection e with e1 e2 e3
    subst e1 e3
    obtain ⟨A, hA⟩ : ∃ A, sl (some ⟨g, 0, none⟩) q c = some A ∧ (q < n → A = ⟨g, q, none⟩) := by
      unfold sl
      by_cases hc : c = q
      · rw [if_pos hc]
        exact ⟨_, rfl, fun h => by omega⟩
      · rw [if_neg hc]
        exact ⟨_, rfl, fun _ => by rw [Nat.mul_one]; exact adl g q⟩
    rw [hA.1]
    refine Src.ofSlice _ hu _ (n - q) _ _ (by rw [List.length_drop]; omega) (fun j u hj => ?_) (fun u hu' => h1 u (List.mem_of_mem_drop hu'))
    rw [List.getElem?_drop] at hj
    have hlt := (List.getElem?_eq_some_iff.1 hj).1
    rw [hA.2 (by omega), adl2]
    exact h6 _ u hj
theorem ins_strs {w : World} {o : Nat → Nat × Nat} {t t2 : Nat × Nat} (hne : t ≠ t2) {b : Option Addr} {n c : Nat} {cs : List Value} (h : OwnK w o t 1 (.slice b n c) n cs) (q : Nat) (hq : q ≤ n) (hn : n ≤ 1000000) (k : ByteArray) :
    ∃ v1 W1 v2 W2 v3 W3,
      (Builtin.append_ #[55, 55] 55 #[.slice (some ⟨w.heap.size, 0, none⟩) 0 0, .slice b q c]).run Tryz.prog (w.alloc (.cells #[] 9)) = .ok v1 W1 ∧
      (Builtin.append_ #[55, 55] 55 #[v1, .slice (some ⟨W1.heap.size, 0, none⟩) 1 1]).run Tryz.prog (W1.alloc (.cells #[.string k] 9)) = .ok v2 W2 ∧
      (Builtin.append_ #[55, 55] 55 #[v2, .slice (sl b q c) (n - q) (c - q)]).run Tryz.prog W2 = .ok v3 W3 ∧
      ∃ o3, OwnK W3 o3 t2 1 v3 (n + 1) (cs.take q ++ .string k :: cs.drop q) ∧ Fr (· = t2) o o3 w W3 := by
  have hcl : cs.length = n := by have := h.1; omega
  obtain ⟨o0, ho0⟩ : ∃ o0, o0 = lab o w.heap.size t2 := ⟨_, rfl⟩
  have f0 : Fr (fun _ => False) o o0 w (w.alloc (.cells #[] 9)) := by rw [ho0]; exact Fr.new _ o w _ _
  have e0 : OwnK (w.alloc (.cells #[] 9)) o0 t2 1 (.slice (some ⟨w.heap.size, 0, none⟩) 0 0) 0 [] := by
    have := own_new (w := w) (o := o) (t := t2) (k := 1) (n := 0) (cap := 0) (e := 9) [] #[] (by simp) (fun u hu => by cases hu) (Nat.le_refl _) (by unfold maxLen; omega) (by simp)
    rw [ho0]
    simpa using this
  have h0 := h.fr f0 (fun x => x)
  obtain ⟨v1, W1, o1, r1, O1, F1⟩ := app_own 55 55 9 (.string ⟨#[]⟩) 16 und55 inf9 (by kernel_rfl) e0 (h0.src_to q hq) (by omega) (by omega)
  have h1 := h0.fr F1 (fun e => hne e)
  obtain ⟨v2, W2, o2, r2, O2, F2⟩ := app_one 55 9 (.string ⟨#[]⟩) 16 und55 inf9 (by kernel_rfl) O1 [.string k] rfl (fun u hu => by simp at hu; rw [hu]; rfl) (by omega) (by omega)
  have h2 := h1.fr F2 (fun e => hne e)
  obtain ⟨v3, W3, o3, r3, O3, F3⟩ := app_own 55 55 9 (.string ⟨#[]⟩) 16 und55 inf9 (by kernel_rfl) O2 (h2.src_at q hq) (by omega) (by omega)
  refine ⟨v1, W1, v2, W2, v3, W3, r1, r2, r3, o3, ?_, ((f0.mono (fun _ e => e.elim)).trans F1).trans (F2.trans F3)⟩
  rw [show 0 + q + 1 + (n - q) = n + 1 by omega] at O3
  simpa using O3
theorem src_k {w : World} {g : Nat} {k : ByteArray} (h : w.cell? ⟨g, 0, none⟩ = some (.string k)) : Src Tryz.prog 1 55 (.slice (some ⟨g, 0, none⟩) 1 1) 1 [.string k] w :=
  Src.ofSlice _ und55 _ 1 1 _ rfl (fun j u hj => by
    rw [adl]
    cases j with
    | zero => injection hj with hj; rw [← hj]; exact h
    | succ j => cases hj) (fun u hu => by simp at hu; rw [hu]; rfl)
/-- What is put in, the empty list are there first. -/
theorem ins_gen {w : World} {o : Nat → Nat × Nat} {t t2 : Nat × Nat} (hne : t ≠ t2) {b : Option Addr} {n c : Nat} {cs : List Value} (h : OwnK w o t 1 (.slice b n c) n cs) (q : Nat) (hq : q ≤ n) (hn : n ≤ 1000000) (k : ByteArray) (E G : Nat)
    (e0 : OwnK w o t2 1 (.slice (some ⟨E, 0, none⟩) 0 0) 0 []) (hk : w.cell? ⟨G, 0, none⟩ = some (.string k)) (hG : o G ≠ t2) :
    ∃ v1 W1 v2 W2 v3 W3,
      (Builtin.append_ #[55, 55] 55 #[.slice (some ⟨E, 0, none⟩) 0 0, .slice b q c]).run Tryz.prog w = .ok v1 W1 ∧
      (Builtin.append_ #[55, 55] 55 #[v1, .slice (some ⟨G, 0, none⟩) 1 1]).run Tryz.prog W1 = .ok v2 W2 ∧
      (Builtin.append_ #[55, 55] 55 #[v2, .slice (sl b q c) (n - q) (c - q)]).run Tryz.prog W2 = .ok v3 W3 ∧
      ∃ o3, OwnK W3 o3 t2 1 v3 (n + 1) (cs.take q ++ .string k :: cs.drop q) ∧ Fr (· = t2) o o3 w W3 := by
  have hcl : cs.length = n := by have := h.1; omega
  obtain ⟨v1, W1, o1, r1, O1, F1⟩ := app_own 55 55 9 (.string ⟨#[]⟩) 16 und55 inf9 (by kernel_rfl) e0 (h.src_to q hq) (by omega) (by omega)
  have h1 := h.fr F1 (fun e => hne e)
  have k1 := F1.cell hk hG
  obtain ⟨v2, W2, o2, r2, O2, F2⟩ := app_own 55 55 9 (.string ⟨#[]⟩) 16 und55 inf9 (by kernel_rfl) O1 (src_k k1) (by omega) (by omega)
  have h2 := h1.fr F2 (fun e => hne e)
  obtain ⟨v3, W3, o3, r3, O3, F3⟩ := app_own 55 55 9 (.string ⟨#[]⟩) 16 und55 inf9 (by kernel_rfl) O2 (h2.src_at q hq) (by omega) (by omega)
  refine ⟨v1, W1, v2, W2, v3, W3, r1, r2, r3, o3, ?_, F1.trans (F2.trans F3)⟩
  rw [show 0 + q + 1 + (n - q) = n + 1 by omega] at O3
  simpa using O3
theorem own_e {w : World} {o : Nat → Nat × Nat} (t2 : Nat × Nat) : OwnK (w.alloc (.cells #[] 9)) (lab o w.heap.size t2) t2 1 (.slice (some ⟨w.heap.size, 0, none⟩) 0 0) 0 [] := by
  have := own_new (w := w) (o := o) (t := t2) (k := 1) (n := 0) (cap := 0) (e := 9) [] #[] (by simp) (fun u hu => by cases hu) (Nat.le_refl _) (by unfold maxLen; omega) (by simp)
  simpa using this
theorem ins_two {w : World} {o : Nat → Nat × Nat} {t t2 : Nat × Nat} (hne : t ≠ t2) (h9 : (9, 9) ≠ t2) {b : Option Addr} {n c : Nat} {cs : List Value} (h : OwnK w o t 1 (.slice b n c) n cs) (q : Nat) (hq : q ≤ n) (hn : n ≤ 1000000) (k : ByteArray) :
    ∃ v1 W1 v2 W2 v3 W3,
      (Builtin.append_ #[55, 55] 55 #[.slice (some ⟨w.heap.size, 0, none⟩) 0 0, .slice b q c]).run Tryz.prog ((w.alloc (.cells #[] 9)).alloc (.cells #[.string k] 9)) = .ok v1 W1 ∧
      (Builtin.append_ #[55, 55] 55 #[v1, .slice (some ⟨w.heap.size + 1, 0, none⟩) 1 1]).run Tryz.prog W1 = .ok v2 W2 ∧
      (Builtin.append_ #[55, 55] 55 #[v2, .slice (sl b q c) (n - q) (c - q)]).run Tryz.prog W2 = .ok v3 W3 ∧
      ∃ o3, OwnK W3 o3 t2 1 v3 (n + 1) (cs.take q ++ .string k :: cs.drop q) ∧ Fr (· = t2) o o3 w W3 := by
  have sz : (w.alloc (.cells #[] 9)).heap.size = w.heap.size + 1 := by simp
  have f0 := (Fr.new (fun _ => False) o w (.cells #[] 9) t2).trans (Fr.new (fun _ => False) _ (w.alloc (.cells #[] 9)) (.cells #[.string k] 9) (9, 9))
  have e0 := (own_e (w := w) (o := o) t2).fr (Fr.new (fun _ => False) _ (w.alloc (.cells #[] 9)) (.cells #[.string k] 9) (9, 9)) (fun x => x)
  obtain ⟨v1, W1, v2, W2, v3, W3, r1, r2, r3, o3, O3, F3⟩ := ins_gen hne (h.fr f0 (fun x => x)) q hq hn k w.heap.size (w.heap.size + 1) e0 (by rw [← sz, World.cell?_alloc_new]; rfl) (by rw [← sz, lab_same]; exact h9)
  exact ⟨v1, W1, v2, W2, v3, W3, r1, r2, r3, o3, O3, (f0.mono (fun _ e => e.elim)).trans F3⟩
theorem ins_three {w : World} {o : Nat → Nat × Nat} {t t2 : Nat × Nat} (hne : t ≠ t2) (h9 : (9, 9) ≠ t2) {b : Option Addr} {n c : Nat} {cs : List Value} (h : OwnK w o t 1 (.slice b n c) n cs) (q : Nat) (hq : q ≤ n) (hn : n ≤ 1000000) (k : ByteArray) :
    ∃ v1 W1 v2 W2 v3 W3,
      (Builtin.append_ #[55, 55] 55 #[.slice (some ⟨w.heap.size + 1, 0, none⟩) 0 0, .slice b q c]).run Tryz.prog ((w.alloc (.cells #[.string k] 9)).alloc (.cells #[] 9)) = .ok v1 W1 ∧
      (Builtin.append_ #[55, 55] 55 #[v1, .slice (some ⟨w.heap.size, 0, none⟩) 1 1]).run Tryz.prog W1 = .ok v2 W2 ∧
      (Builtin.append_ #[55, 55] 55 #[v2, .slice (sl b q c) (n - q) (c - q)]).run Tryz.prog W2 = .ok v3 W3 ∧
      ∃ o3, OwnK W3 o3 t2 1 v3 (n + 1) (cs.take q ++ .string k :: cs.drop q) ∧ Fr (· = t2) o o3 w W3 := by
  have sz : (w.alloc (.cells #[.string k] 9)).heap.size = w.heap.size + 1 := by simp
  have f0 := (Fr.new (fun _ => False) o w (.cells #[.string k] 9) (9, 9)).trans (Fr.new (fun _ => False) _ (w.alloc (.cells #[.string k] 9)) (.cells #[] 9) t2)
  have e0 := own_e (w := w.alloc (.cells #[.string k] 9)) (o := lab o w.heap.size (9, 9)) t2
  rw [sz] at e0 f0
  obtain ⟨v1, W1, v2, W2, v3, W3, r1, r2, r3, o3, O3, F3⟩ := ins_gen hne (h.fr f0 (fun x => x)) q hq hn k (w.heap.size + 1) w.heap.size e0 (cell_b (by rw [World.cell?_alloc_new]; rfl) (bel_alloc _ _)) (by rw [lab_other _ _ _ (by omega), lab_same]; exact h9)
  exact ⟨v1, W1, v2, W2, v3, W3, r1, r2, r3, o3, O3, (f0.mono (fun _ e => e.elim)).trans F3⟩
end Go.Proofs.YtfinaichajbnkaaGreat
