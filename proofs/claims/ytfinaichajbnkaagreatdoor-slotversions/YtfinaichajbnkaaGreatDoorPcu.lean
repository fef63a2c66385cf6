/-
  FRAMES AS CELLS; parts of lists of them; copy, append and clear of them.
-/
import Derived.Test.YtfinaichajbnkaaGreatDoorSnw
import Derived.Laws.IdiomCopy
namespace Go.Proofs.YtfinaichajbnkaaGreatDoor
open Go.RowKit
open Wi (F)

theorem fz_one (f : F) : ∀ u ∈ f.cs, u.oneCell' = true := by
  intro u hu
  simp only [Wi.F.cs, List.mem_cons, List.not_mem_nil, or_false] at hu
  rcases hu with rfl | rfl | rfl | rfl | rfl | rfl | rfl | rfl | rfl <;> rfl
theorem fcz_length (l : List F) : (fcz l).length = l.length * 9 := by
  induction l with
  | nil => rfl
  | cons f l ih => simp only [fcz, List.flatMap_cons, List.length_append] at ih ⊢; rw [ih]; simp [Wi.F.cs]; omega
theorem fcz_append (l m : List F) : fcz (l ++ m) = fcz l ++ fcz m := by simp [fcz]
theorem fcz_cons (f : F) (l : List F) : fcz (f :: l) = f.cs ++ fcz l := rfl
theorem fcz_at (l : List F) {j : Nat} {f : F} (h : l[j]? = some f) (i : Nat) (hi : i < 9) : (fcz l)[j * 9 + i]? = f.cs[i]? := by
  induction l generalizing j with
  | nil => cases h
  | cons g l ih =>
    cases j with
    | zero =>
      simp only [List.getElem?_cons_zero, Option.some.injEq] at h
      subst h
      rw [Nat.zero_mul, Nat.zero_add]
      show (g.cs ++ fcz l)[i]? = _
      rw [List.getElem?_append_left (by simp [Wi.F.cs]; omega)]
    | succ j =>
      rw [List.getElem?_cons_succ] at h
      show (g.cs ++ fcz l)[(j + 1) * 9 + i]? = _
      rw [List.getElem?_append_right (by simp [Wi.F.cs]; omega), show (j + 1) * 9 + i - g.cs.length = j * 9 + i by simp [Wi.F.cs]; omega]
      exact ih h
theorem fcz_one (l : List F) : ∀ u ∈ fcz l, u.oneCell' = true := fun u hu => by
  obtain ⟨f, _, hf⟩ := List.mem_flatMap.1 hu
  exact fz_one f u hf
theorem fcz_take (l : List F) (k : Nat) : (fcz l).take (k * 9) = fcz (l.take k) := by
  induction l generalizing k with
  | nil => simp [fcz]
  | cons f l ih =>
    cases k with
    | zero => simp [fcz]
    | succ k =>
      show (f.cs ++ fcz l).take ((k + 1) * 9) = f.cs ++ fcz (l.take k)
      rw [show (k + 1) * 9 = f.cs.length + k * 9 by simp [Wi.F.cs]; omega, List.take_length_add_append, ih]
theorem fcz_drop (l : List F) (k : Nat) : (fcz l).drop (k * 9) = fcz (l.drop k) := by
  induction l generalizing k with
  | nil => simp [fcz]
  | cons f l ih =>
    cases k with
    | zero => simp [fcz]
    | succ k =>
      show (f.cs ++ fcz l).drop ((k + 1) * 9) = fcz (l.drop k)
      rw [show (k + 1) * 9 = f.cs.length + k * 9 by simp [Wi.F.cs]; omega, List.drop_length_add_append, ih]
theorem info28 : (Tryz.prog.info? 28).map (fun i => (i.zero, i.size, i.bytes)) = some (some Wi.Z.v, 9, 88) := by kernel_rfl
theorem size27 : (Tryz.prog.info? 28).map (·.size) = some 9 := by kernel_rfl
theorem cells27 : (Wi.Z.v).cells.size = 9 := by kernel_rfl
theorem elem44 : Tryz.prog.underlying 39 = some (.slice (Tryz.prog.elem 39)) := by kernel_rfl
theorem und44 : Tryz.prog.underlying 39 = some (.slice 28) := by kernel_rfl
theorem elem44' : Tryz.prog.elem 39 = 28 := by kernel_rfl
theorem size27' (w : World) : (sizeOf 28).run Tryz.prog w = .ok 9 w := by kernel_rfl
def cutB (g l cap : Nat) : Addr := if cap = l then ⟨g, 0, none⟩ else ⟨g, l * 9, none⟩
theorem sl_hi (g len cap h : Nat) (hh : h ≤ cap) (w : World) :
    (Instr.sliceAt 39 (.slice (some ⟨g, 0, none⟩) len cap) none (some (.int .i64 (h : Int))) none).run Tryz.prog w = .ok (.slice (some ⟨g, 0, none⟩) h cap) w := by
  rw [run_sliceAt_slice _ _ _ _ _ _ elem44, run_slice_h _ _ _ _ _ elem44 _ _ (by omega) (by omega), elem44', size27']
  have ea : (⟨g, 0, none⟩ : Addr).add 0 = ⟨g, 0, none⟩ := by unfold Addr.add; split <;> simp_all
  simp [sliced, ea]
theorem sl_lo (g len cap l : Nat) (hl : l ≤ len) (w : World) :
    (Instr.sliceAt 39 (.slice (some ⟨g, 0, none⟩) len cap) (some (.int .i64 (l : Int))) none none).run Tryz.prog w = .ok (.slice (some (cutB g l cap)) (len - l) (cap - l)) w := by
  rw [run_sliceAt_slice _ _ _ _ _ _ elem44, run_slice_l _ _ _ _ _ elem44 _ _ (by omega) (by omega), elem44', size27']
  have ea : (⟨g, 0, none⟩ : Addr).add (l * 9) = ⟨g, l * 9, none⟩ := by unfold Addr.add; split <;> simp_all
  unfold cutB
  by_cases e : cap = l
  · simp [sliced, e]
  · simp [sliced, e, ea]
theorem sl_lh (g len cap l h : Nat) (hl : l ≤ h) (hh : h ≤ cap) (w : World) :
    (Instr.sliceAt 39 (.slice (some ⟨g, 0, none⟩) len cap) (some (.int .i64 (l : Int))) (some (.int .i64 (h : Int))) none).run Tryz.prog w = .ok (.slice (some (cutB g l cap)) (h - l) (cap - l)) w := by
  rw [run_sliceAt_slice _ _ _ _ _ _ elem44, run_slice_lh _ _ _ _ _ elem44 _ _ _ _ (by omega) (by omega) (by omega), elem44', size27']
  have ea : (⟨g, 0, none⟩ : Addr).add (l * 9) = ⟨g, l * 9, none⟩ := by unfold Addr.add; split <;> simp_all
  unfold cutB
  by_cases e : cap = l
  · simp [sliced, e]
  · simp [sliced, e, ea]
theorem sl_lhm (a : Option Addr) (len cap : Nat) (l h m : Int) (h0 : 0 ≤ l) (hl : l ≤ h) (hh : h ≤ m) (hm : m ≤ cap) :
    ∃ V, ∀ w, (Instr.sliceAt 39 (.slice a len cap) (some (.int .i64 l)) (some (.int .i64 h)) (some (.int .i64 m))).run Tryz.prog w = .ok V w :=
  ⟨sliced a l.toNat h.toNat m.toNat 9, fun w => by
    rw [run_sliceAt_slice _ _ _ _ _ _ elem44, run_slice_lhm _ _ _ _ _ elem44 _ _ _ _ _ _ h0 hl hh hm, elem44', size27']
    rfl⟩
theorem sl_any (a : Option Addr) (len cap l : Nat) (hl : l ≤ len) : ∃ V, ∀ w, (Instr.sliceAt 39 (.slice a len cap) (some (.int .i64 (l : Int))) none none).run Tryz.prog w = .ok V w :=
  ⟨_, fun w => by
    rw [run_sliceAt_slice _ _ _ _ _ _ elem44, run_slice_l _ _ _ _ _ elem44 _ _ (by omega) (by omega), elem44', size27']
    rfl⟩
/-- 'copy' of elements of k cells. -/
theorem run_copy_k {P : Program} (k : Nat) (w : World) (dT sT ty elem : TypeId) (b o dLen dCap : Nat) (a : Addr) (sLen sCap n : Nat) (cs : List Value)
    (hu : P.underlying dT = some (.slice elem)) (hs : (P.info? elem).map (·.size) = some k) (hn : n = Nat.min sLen dLen) (hc0 : cs.length = n * k)
    (hsrc : ∀ j v, cs[j]? = some v → w.cell? (a.add j) = some v) (hc : ∀ j, j < cs.length → (w.cell? ⟨b, o + j, none⟩).isSome = true) (hf : ∀ j, j < cs.length → w.frozen? ⟨b, o + j, none⟩ = false) (h1 : ∀ v ∈ cs, v.oneCell' = true) :
    (Builtin.copy_ #[dT, sT] ty #[.slice (some ⟨b, o, none⟩) dLen dCap, .slice (some a) sLen sCap]).run P w = .ok (goInt n) (w.setCells b o cs) := by
  have hl := run_loadCells_list (P := P) w a cs hsrc
  have hst := run_storeCells_cells (P := P) b o cs 0 w (by simpa using hc) (by simpa using hf) h1
  rw [hc0] at hl
  cases hq : P.info? elem with
  | none => simp [hq] at hs
  | some i =>
    have hi : i.size = k := by simpa [hq] using hs
    simp [Builtin.copy_, run_underlying hu, Builtin.lenOf, Builtin.firstCells, sizeOf, typeInfo, hq, hi, ← hn, hl, hst]
theorem wpList_copy_run {P : Program} {w w' : World} {ops : Array Oper} {rest : List Oper} {o : Oper} {a : Act} {Q : Exit → Act → World → Prop} (hgd : o.guard = none) (s x : Operand) (t tx : TypeId)
    (ho : o.op = .call { callee := .builtin .copy, args := #[s, x], argTypes := #[t, tx] }) (v xv v' : Value) (hs : a.eval s = v) (hx : a.eval x = xv)
    (hr : (Builtin.copy_ #[t, tx] o.type #[v, xv]).run P w = .ok v' w') (h : wpList P ops Q rest (a.put o.dst v') w') : wpList P ops Q (o :: rest) a w := by
  refine wpList_plain hgd fun K hK => ?_
  unfold Oper.wp execOp
  simp only [ho, resolve, invoke, builtin, Sem.run_bind, Sem.run_pure, Result.andThen_ok, List.map_toArray, List.map_cons, List.map_nil, hs, hx, hr]
  exact hK _ _ h
/-- copy as a step of a region that draws, its run given ahead. -/
theorem step_copy {P : Program} {ops : Array Oper} {o : Oper} {a : Act} {w : World} {K : Act → World → Prop} {Q : Exit → Act → World → Prop} {E : Prop} {X w' : World} {v xv v' : Value} {t : TypeId} (hr : ∀ ty, (Builtin.copy_ #[t, t] ty #[v, xv]).run P X = .ok v' w') (s x : Operand)
    (hw : w = X) (hgd : o.guard = none) (ho : o.op = .call { callee := .builtin .copy, args := #[s, x], argTypes := #[t, t] }) (hs : a.eval s = v) (hx : a.eval x = xv) (hk : K (a.put o.dst v') w') :
    if Region.wanted o (yielded ops a.tmps) = true then Oper.wp P o a w K Q else E := by
  subst hw
  rw [if_pos (by simp [Region.wanted, hgd])]
  unfold Oper.wp execOp
  simp only [ho, resolve, invoke, builtin, Sem.run_bind, Sem.run_pure, Result.andThen_ok, List.map_toArray, List.map_cons, List.map_nil, hs, hx, hr]
  exact hk
/-- append as a step of a region that draws, its run given ahead. -/
theorem step_appz {P : Program} {ops : Array Oper} {o : Oper} {a : Act} {w : World} {K : Act → World → Prop} {Q : Exit → Act → World → Prop} {E : Prop} {X w' : World} {v xv v' : Value} {t : TypeId} (hr : (Builtin.append_ #[t, t] t #[v, xv]).run P X = .ok v' w') (s x : Operand)
    (hw : w = X) (hgd : o.guard = none) (ho : o.op = .call { callee := .builtin .append, args := #[s, x], argTypes := #[t, t] }) (ht : o.type = t) (hs : a.eval s = v) (hx : a.eval x = xv) (hk : K (a.put o.dst v') w') :
    if Region.wanted o (yielded ops a.tmps) = true then Oper.wp P o a w K Q else E := by
  subst hw
  rw [if_pos (by simp [Region.wanted, hgd])]
  unfold Oper.wp execOp
  simp only [ho, ht, resolve, invoke, builtin, Sem.run_bind, Sem.run_pure, Result.andThen_ok, List.map_toArray, List.map_cons, List.map_nil, hs, hx, hr]
  exact hk
theorem adz (g j : Nat) : (⟨g, 0, none⟩ : Addr).add j = ⟨g, j, none⟩ := by unfold Addr.add; split <;> simp_all
theorem adz2 (g i j : Nat) : (⟨g, i, none⟩ : Addr).add j = ⟨g, i + j, none⟩ := by unfold Addr.add; split <;> simp_all
/-- The shape of a block in which a cell lies. -/
theorem shape_of {w : World} {b j : Nat} (h : (w.cell? ⟨b, j, none⟩).isSome = true) : ∃ t k, w.shape? b = some (t, k) ∧ k ≠ 0 := by
  unfold World.cell? at h
  unfold World.shape?
  cases hh : w.heap[b]? with
  | none => simp [hh] at h
  | some ob =>
    cases ob with
    | cells c e m =>
      simp only [hh] at h ⊢
      refine ⟨_, _, rfl, fun e0 => ?_⟩
      have hj : j < c.size := by
        rcases Nat.lt_or_ge j c.size with hj | hj
        · exact hj
        · simp [Array.getElem?_eq_none hj] at h
      omega
    | _ => simp [hh] at h
theorem shape_new (w : World) (cs : List Value) (e : TypeId) : (w.alloc (.cells cs.toArray e)).shape? w.heap.size = some (e, cs.length) := by
  unfold World.shape?
  have : (w.alloc (.cells cs.toArray e)).heap[w.heap.size]? = some (.cells cs.toArray e) := by
    show (w.heap.push (.cells cs.toArray e))[w.heap.size]? = _
    simp
  rw [this]
  simp
/-- Cells stored within a list. -/
theorem OwnK.sets {w : World} {o : Nat → Nat × Nat} {t : Nat × Nat} {k n g cap : Nat} {cs : List Value} (h : OwnK w o t k (.slice (some ⟨g, 0, none⟩) n cap) n cs) : ∀ (vs : List Value) (j : Nat), (∀ u ∈ vs, u.oneCell' = true) → j + vs.length ≤ n * k → OwnK (w.setCells g j vs) o t k (.slice (some ⟨g, 0, none⟩) n cap) n (cs.take j ++ vs ++ cs.drop (j + vs.length)) := by
  intro vs
  induction vs generalizing w cs with
  | nil => intro j _ _; simpa [World.setCells] using h
  | cons v vs ih =>
    intro j h1 hj
    rw [List.length_cons] at hj ⊢
    have h2 := h.set j v (h1 v List.mem_cons_self) (by omega)
    have h3 := ih h2 (j + 1) (fun u hu => h1 u (List.mem_cons_of_mem _ hu)) (by omega)
    show OwnK ((w.setCell ⟨g, j, none⟩ v).setCells g (j + 1) vs) o t k _ n _
    have hl := h.1
    have hjl : j < cs.length := by omega
    have e : (cs.set j v).take (j + 1) ++ vs ++ (cs.set j v).drop (j + 1 + vs.length) = cs.take j ++ v :: vs ++ cs.drop (j + (vs.length + 1)) := by
      rw [List.take_set, List.drop_set_of_lt (by omega), List.take_succ_eq_append_getElem hjl, List.set_append_right _ _ (by simp; omega)]
      simp [Nat.min_eq_left (Nat.le_of_lt hjl), show j + 1 + vs.length = j + (vs.length + 1) by omega]
    rw [e] at h3
    exact h3
theorem zone (n : Nat) : ∀ u ∈ (Builtin.zeroCells (Wi.Z.v).cells n).toList, u.oneCell' = true := fun u hu => by
  rw [Array.mem_toList_iff] at hu
  unfold Builtin.zeroCells at hu
  rw [Array.mem_map] at hu
  obtain ⟨i, _, rfl⟩ := hu
  rw [cells27]
  have hi : i % 9 < 9 := Nat.mod_lt _ (by omega)
  generalize i % 9 = r at hi
  obtain rfl | rfl | rfl | rfl | rfl | rfl | rfl | rfl | rfl : r = 0 ∨ r = 1 ∨ r = 2 ∨ r = 3 ∨ r = 4 ∨ r = 5 ∨ r = 6 ∨ r = 7 ∨ r = 8 := by omega
  all_goals rfl
/-- clear, of n frames. -/
theorem run_clearz (w : World) (ty : TypeId) (g off n c : Nat) (hn : 0 < n) (h7 : ∀ j, j < n * 9 → (w.cell? ⟨g, off + j, none⟩).isSome = true ∧ w.frozen? ⟨g, off + j, none⟩ = false) :
    (Builtin.clear_ #[39] ty #[.slice (some ⟨g, off, none⟩) n c]).run Tryz.prog w = .ok (.tuple #[]) (w.setCells g off (Builtin.zeroCells (Wi.Z.v).cells n).toList) := by
  have hzl : (Builtin.zeroCells (Wi.Z.v).cells n).toList.length = n * 9 := by rw [Array.length_toList, size_zeroCells, cells27]
  obtain ⟨i0, hi, hz0, hz1, hz2⟩ := info_parts info28
  have hst := run_storeCells_cells (P := Tryz.prog) g off (Builtin.zeroCells (Wi.Z.v).cells n).toList 0 w (fun j hj => (h7 j (by rw [← hzl]; exact hj)).1) (fun j hj => (h7 j (by rw [← hzl]; exact hj)).2) (zone n)
  simp only [Nat.add_zero] at hst
  obtain ⟨m, rfl⟩ : ∃ m, n = m + 1 := ⟨n - 1, by omega⟩
  simp [Builtin.clear_, run_underlying und44, zeroValue, typeInfo, hi, hz0, hst]
end Go.Proofs.YtfinaichajbnkaaGreatDoor
