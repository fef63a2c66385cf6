/-
  STRUCTS HELD AGAINST THEMSELVES; Same of lists of them; Answers.
-/
import Derived.Test.YtpkmfckifnomeaaDoorFnd
import Derived.Laws.Rows
import Derived.Laws.StructEq
namespace Go.Proofs.YtpkmfckifnomeaaDoor
open Go.RowKit

theorem part1 (w : World) (t : TypeId) (ht : Tryd.prog.underlying t = some (.int .i64) ∨ Tryd.prog.underlying t = some .string) (xs : Array Value) (i : Nat) (v : Value) (hv : xs[i]? = some v) : (part t xs i).run Tryd.prog w = .ok v w := by
  rcases ht with ht | ht <;> simp [part, isAgg, run_underlying ht, hv]
/-- Fields that are all the same. -/
theorem eq_fields (w : World) (d : Nat) (xs : Array Value) : ∀ (fs : List Field), (∀ f ∈ fs, (Tryd.prog.underlying f.type = some (.int .i64) ∧ ∃ z, xs[f.offset]? = some (.int .i64 z)) ∨ (Tryd.prog.underlying f.type = some .string ∧ ∃ s, xs[f.offset]? = some (.string s))) → (Op.eqFields (d + 1) xs xs fs).run Tryd.prog w = .ok true w
  | [], _ => by simp [Op.eqFields]
  | f :: fs, h => by
    have ih := eq_fields w d xs fs (fun g hg => h g (List.mem_cons_of_mem _ hg))
    unfold Op.eqFields
    split
    · rcases h f List.mem_cons_self with ⟨ht, z, hz⟩ | ⟨ht, s, hs⟩
      · have hp := part1 w f.type (.inl ht) xs f.offset _ hz
        have he : (Op.equalIn (d + 1) f.type (.int .i64 z) (.int .i64 z)).run Tryd.prog w = .ok true w := by simp [Op.equalIn, run_underlying ht]
        simp only [Sem.run_bind, hp, Result.andThen_ok, he, Bool.not_true, Bool.false_eq_true, if_false]
        exact ih
      · have hp := part1 w f.type (.inr ht) xs f.offset _ hs
        have he : (Op.equalIn (d + 1) f.type (.string s) (.string s)).run Tryd.prog w = .ok true w := by simp [Op.equalIn, run_underlying ht, beq_toListBytes]
        simp only [Sem.run_bind, hp, Result.andThen_ok, he, Bool.not_true, Bool.false_eq_true, if_false]
        exact ih
    · exact ih
theorem under49s : Tryd.prog.underlying 49 = some (.struct (Tryd.prog.fieldsOf 49)) := by kernel_rfl
theorem stood49 : Tryd.prog.stoodInHeld 49 = false := by kernel_rfl
theorem fields49 : (Tryd.prog.fieldsOf 49).toList.map (fun f => (f.name, f.type, f.offset)) = [("Key", 9, 0), ("Flags", 3, 1), ("Deadline", 3, 2), ("Value", 9, 3), ("Cas", 3, 4)] := by kernel_rfl
theorem eq49 (w : World) (d : Nat) (f : En) : (Op.equalIn (d + 1 + 1) 49 (.agg (En.cs f).toArray) (.agg (En.cs f).toArray)).run Tryd.prog w = .ok true w := by
  rw [run_equalIn_struct w (d + 1) 49 _ _ under49s stood49]
  refine eq_fields w d _ _ (fun g hg => ?_)
  have hm : (g.name, g.type, g.offset) ∈ (Tryd.prog.fieldsOf 49).toList.map (fun f => (f.name, f.type, f.offset)) := List.mem_map_of_mem hg
  rw [fields49] at hm
  have e3 : Tryd.prog.underlying 3 = some (.int .i64) := Tryd.underlying3
  have e9 : Tryd.prog.underlying 9 = some .string := Tryd.underlying9
  simp only [List.mem_cons, List.not_mem_nil, or_false, Prod.mk.injEq] at hm
  rcases hm with ⟨_, t, o⟩ | ⟨_, t, o⟩ | ⟨_, t, o⟩ | ⟨_, t, o⟩ | ⟨_, t, o⟩ <;> rw [t, o]
  · exact .inr ⟨e9, _, rfl⟩
  · exact .inl ⟨e3, _, rfl⟩
  · exact .inl ⟨e3, _, rfl⟩
  · exact .inr ⟨e9, _, rfl⟩
  · exact .inl ⟨e3, _, rfl⟩
theorem neq49 (w : World) (f : En) : (binOp .neq 49 (.agg (En.cs f).toArray) (.agg (En.cs f).toArray)).run Tryd.prog w = .ok (.bool false) w := by
  have h : (Op.equal 49 (.agg (En.cs f).toArray) (.agg (En.cs f).toArray)).run Tryd.prog w = .ok true w := by
    unfold Op.equal
    exact eq49 w _ f
  have e : (binOp .neq 49 (.agg (En.cs f).toArray) (.agg (En.cs f).toArray)) = (do pure (.bool (!(← Op.equal 49 (.agg (En.cs f).toArray) (.agg (En.cs f).toArray))))) := rfl
  rw [e]
  simp only [Sem.run_bind, h, Result.andThen_ok, Sem.run_pure, Bool.not_true]
theorem eql49 (w : World) (f : En) : (binOp .eql 49 (.agg (En.cs f).toArray) (.agg (En.cs f).toArray)).run Tryd.prog w = .ok (.bool true) w := by
  have h : (Op.equal 49 (.agg (En.cs f).toArray) (.agg (En.cs f).toArray)).run Tryd.prog w = .ok true w := by
    unfold Op.equal
    exact eq49 w _ f
  have e : (binOp .eql 49 (.agg (En.cs f).toArray) (.agg (En.cs f).toArray)) = (do pure (.bool (← Op.equal 49 (.agg (En.cs f).toArray) (.agg (En.cs f).toArray)))) := rfl
  rw [e]
  simp only [Sem.run_bind, h, Result.andThen_ok, Sem.run_pure]
theorem under35s : Tryd.prog.underlying 35 = some (.struct (Tryd.prog.fieldsOf 35)) := by kernel_rfl
theorem stood35 : Tryd.prog.stoodInHeld 35 = false := by kernel_rfl
theorem fields35 : (Tryd.prog.fieldsOf 35).toList.map (fun f => (f.name, f.type, f.offset)) = [("Key", 9, 0), ("Flags", 3, 1), ("Value", 9, 2), ("Cas", 3, 3)] := by kernel_rfl
theorem eq35 (w : World) (d : Nat) (f : En) : (Op.equalIn (d + 1 + 1) 35 (.agg (fc1 f).toArray) (.agg (fc1 f).toArray)).run Tryd.prog w = .ok true w := by
  rw [run_equalIn_struct w (d + 1) 35 _ _ under35s stood35]
  refine eq_fields w d _ _ (fun g hg => ?_)
  have hm : (g.name, g.type, g.offset) ∈ (Tryd.prog.fieldsOf 35).toList.map (fun f => (f.name, f.type, f.offset)) := List.mem_map_of_mem hg
  rw [fields35] at hm
  have e3 : Tryd.prog.underlying 3 = some (.int .i64) := Tryd.underlying3
  have e9 : Tryd.prog.underlying 9 = some .string := Tryd.underlying9
  simp only [List.mem_cons, List.not_mem_nil, or_false, Prod.mk.injEq] at hm
  rcases hm with ⟨_, t, o⟩ | ⟨_, t, o⟩ | ⟨_, t, o⟩ | ⟨_, t, o⟩ <;> rw [t, o]
  · exact .inr ⟨e9, _, rfl⟩
  · exact .inl ⟨e3, _, rfl⟩
  · exact .inr ⟨e9, _, rfl⟩
  · exact .inl ⟨e3, _, rfl⟩
theorem neq35 (w : World) (f : En) : (binOp .neq 35 (.agg (fc1 f).toArray) (.agg (fc1 f).toArray)).run Tryd.prog w = .ok (.bool false) w := by
  have h : (Op.equal 35 (.agg (fc1 f).toArray) (.agg (fc1 f).toArray)).run Tryd.prog w = .ok true w := by
    unfold Op.equal
    exact eq35 w _ f
  have e : (binOp .neq 35 (.agg (fc1 f).toArray) (.agg (fc1 f).toArray)) = (do pure (.bool (!(← Op.equal 35 (.agg (fc1 f).toArray) (.agg (fc1 f).toArray))))) := rfl
  rw [e]
  simp only [Sem.run_bind, h, Result.andThen_ok, Sem.run_pure, Bool.not_true]
theorem eql35 (w : World) (f : En) : (binOp .eql 35 (.agg (fc1 f).toArray) (.agg (fc1 f).toArray)).run Tryd.prog w = .ok (.bool true) w := by
  have h : (Op.equal 35 (.agg (fc1 f).toArray) (.agg (fc1 f).toArray)).run Tryd.prog w = .ok true w := by
    unfold Op.equal
    exact eq35 w _ f
  have e : (binOp .eql 35 (.agg (fc1 f).toArray) (.agg (fc1 f).toArray)) = (do pure (.bool (← Op.equal 35 (.agg (fc1 f).toArray) (.agg (fc1 f).toArray)))) := rfl
  rw [e]
  simp only [Sem.run_bind, h, Result.andThen_ok, Sem.run_pure]
/-- A list of n elements of k cells at a place. -/
def Lst (w : World) (k : Nat) (a : Option Addr) (n : Nat) (cs : List Value) : Prop := cs.length = n * k ∧ (n = 0 ∨ ∃ g, a = some ⟨g, 0, none⟩ ∧ ∀ j u, cs[j]? = some u → w.cell? ⟨g, j, none⟩ = some u)
theorem Lst.at_ {w : World} {k : Nat} {a : Option Addr} {n : Nat} {cs : List Value} (h : Lst w k a n cs) (hn : n ≠ 0) : ∃ g, a = some ⟨g, 0, none⟩ ∧ ∀ j u, cs[j]? = some u → w.cell? ⟨g, j, none⟩ = some u := by
  rcases h.2 with h | h
  · exact absurd h hn
  · exact h
theorem OwnK.lst {w : World} {o : Nat → Nat × Nat} {t : Nat × Nat} {k n c : Nat} {a : Option Addr} {cs : List Value} (h : OwnK w o t k (.slice a n c) n cs) : Lst w k a n cs := by
  refine ⟨h.1, ?_⟩
  rcases h.2.2 with ⟨_, h0⟩ | ⟨g, cap, e, _, _, _, _, h6, _⟩
  · exact .inl h0
  · injection e with e1
    exact .inr ⟨g, e1, h6⟩
theorem Lst.below {w w' : World} {k : Nat} {a : Option Addr} {n : Nat} {cs : List Value} (h : Lst w k a n cs) (f : Below w.heap.size w w') : Lst w' k a n cs := by
  refine ⟨h.1, ?_⟩
  rcases h.2 with h | ⟨g, e, h6⟩
  · exact .inl h
  · exact .inr ⟨g, e, fun j u hu => (f.cell (p := ⟨g, j, none⟩) (World.block_lt_of_cell? _ _ (h6 j u hu))).trans (h6 j u hu)⟩
theorem Lst.none (w : World) (k : Nat) (a : Option Addr) : Lst w k a 0 [] := ⟨by simp, .inl rfl⟩
/-- Entries as cells. -/
def ecs (l : List En) : List Value := l.flatMap En.cs
theorem ecs_len (l : List En) : (ecs l).length = l.length * 5 := by
  induction l with
  | nil => rfl
  | cons f l ih => simp only [ecs, List.flatMap_cons, List.length_append, List.length_cons] at ih ⊢; rw [ih, show (En.cs f).length = 5 from rfl]; omega
theorem ecs_at (l : List En) {j : Nat} {f : En} (h : l[j]? = some f) (i : Nat) (hi : i < 5) : (ecs l)[j * 5 + i]? = (En.cs f)[i]? := by
  induction l generalizing j with
  | nil => cases h
  | cons g l ih =>
    cases j with
    | zero =>
      obtain rfl : g = f := by simpa using h
      simp only [ecs, List.flatMap_cons, Nat.zero_mul, Nat.zero_add]
      exact List.getElem?_append_left (by show i < 5; exact hi)
    | succ j =>
      simp only [ecs, List.flatMap_cons]
      rw [List.getElem?_append_right (by show 5 ≤ _; omega), show (j + 1) * 5 + i - (En.cs g).length = j * 5 + i by rw [show (En.cs g).length = 5 from rfl]; omega]
      exact ih (by simpa using h)
theorem fcs_len (l : List En) : (fcs l).length = l.length * 4 := by
  induction l with
  | nil => rfl
  | cons f l ih => simp only [fcs, List.flatMap_cons, List.length_append, List.length_cons] at ih ⊢; rw [ih, show (fc1 f).length = 4 from rfl]; omega
theorem fcs_at (l : List En) {j : Nat} {f : En} (h : l[j]? = some f) (i : Nat) (hi : i < 4) : (fcs l)[j * 4 + i]? = (fc1 f)[i]? := by
  induction l generalizing j with
  | nil => cases h
  | cons g l ih =>
    cases j with
    | zero =>
      obtain rfl : g = f := by simpa using h
      simp only [fcs, List.flatMap_cons, Nat.zero_mul, Nat.zero_add]
      exact List.getElem?_append_left (by show i < 4; exact hi)
    | succ j =>
      simp only [fcs, List.flatMap_cons]
      rw [List.getElem?_append_right (by show 4 ≤ _; omega), show (j + 1) * 4 + i - (fc1 g).length = j * 4 + i by rw [show (fc1 g).length = 4 from rfl]; omega]
      exact ih (by simpa using h)
set_option maxRecDepth 100000 in
set_option maxHeartbeats 1000000 in
theorem same_entries {a1 a2 : Option Addr} {c1 c2 : Nat} (l : List En) (n : Nat) (hn : n ≤ 2000000) (w : World) (h1 : Lst w 5 a1 n (ecs l)) (h2 : Lst w 5 a2 n (ecs l)) :
    Calls Tryd.prog 18 #[.slice a1 n c1, .slice a2 n c2] w fun e w' => e = .returned (.bool true) ∧ Below w.heap.size w w' := by
  have hl : n = l.length := by have := h1.1; rw [ecs_len] at this; omega
  have H1 := Lib.hid h1
  have H2 := Lib.hid h2
  have HN : Hid (n = l.length) := hl
  have ne : ((n : Int) != (n : Int)) = false := by simp
  clear h1 h2 hl
  go_enter Tryd.func18, Tryd.ntmps18
  go_wp2_with fail
  go_loopw [5] (fun i wr => ∃ j m : Nat, j ≤ n ∧ i = .int .i64 (j : Int) ∧ Hid (wr = w.drewN m)) (fun i _ => n - (intOf i).toNat)
  case atStart => exact ⟨0, 0, by omega, rfl, rfl⟩
  case round =>
    obtain ⟨j, m, hj, rfl, HW⟩ := hrel
    by_cases hlt : j < n
    · obtain ⟨f, hf⟩ : ∃ f, l[j]? = some f := ⟨_, List.getElem?_eq_getElem (by rw [← HN.out]; exact hlt)⟩
      obtain ⟨g1, e1, d1⟩ := H1.out.at_ (by omega)
      obtain ⟨g2, e2, d2⟩ := H2.out.at_ (by omega)
      subst e1 e2
      have D1 : ∀ i u, i < 5 → (En.cs f)[i]? = some u → wr.cell? ⟨g1, j * 5 + i, none⟩ = some u := fun i u hi hu => by rw [HW.out]; exact d1 _ _ (by rw [ecs_at l hf i hi]; exact hu)
      have D2 : ∀ i u, i < 5 → (En.cs f)[i]? = some u → wr.cell? ⟨g2, j * 5 + i, none⟩ = some u := fun i u hi hu => by rw [HW.out]; exact d2 _ _ (by rw [ecs_at l hf i hi]; exact hu)
      have x0 : wr.cell? ⟨g1, j * 5, none⟩ = some _ := D1 0 _ (by omega) rfl
      have y0 : wr.cell? ⟨g2, j * 5, none⟩ = some _ := D2 0 _ (by omega) rfl
      have x1 := D1 1 _ (by omega) rfl
      have y1 := D2 1 _ (by omega) rfl
      have x2 := D1 2 _ (by omega) rfl
      have y2 := D2 2 _ (by omega) rfl
      have x3 := D1 3 _ (by omega) rfl
      have y3 := D2 3 _ (by omega) rfl
      have x4 := D1 4 _ (by omega) rfl
      have y4 := D2 4 _ (by omega) rfl
      have hi1 : (j : Int) < (n : Int) := by omega
      have hne := fun w => neq49 w f
      obtain ⟨p0, p1, p2, p3, p4⟩ := f
      simp only [En.cs] at hne
      clear d1 d2 hf D1 D2
      go_wp2_with fail
      go_quiet (fail)
      go_wp2_with fail
      exact ⟨⟨j + 1, m + nq, by omega, by go_num, by show _ = _; rw [HW.out, World.drewN_drewN]⟩, by simp [intOf]; omega⟩
    · go_wp2_with fail
      go_ret
      exact ⟨rfl, by rw [HW.out]; exact (Fr.drewN (fun _ => False) o0 w m).below (Nat.le_refl _) (fun _ _ h => h)⟩
set_option maxRecDepth 100000 in
set_option maxHeartbeats 1000000 in
theorem same_found {a1 a2 : Option Addr} {c1 c2 : Nat} (l : List En) (n : Nat) (hn : n ≤ 2000000) (w : World) (h1 : Lst w 4 a1 n (fcs l)) (h2 : Lst w 4 a2 n (fcs l)) :
    Calls Tryd.prog 27 #[.slice a1 n c1, .slice a2 n c2] w fun e w' => e = .returned (.bool true) ∧ Below w.heap.size w w' := by
  have hl : n = l.length := by have := h1.1; rw [fcs_len] at this; omega
  have H1 := Lib.hid h1
  have H2 := Lib.hid h2
  have HN : Hid (n = l.length) := hl
  have ne : ((n : Int) != (n : Int)) = false := by simp
  clear h1 h2 hl
  go_enter Tryd.func27, Tryd.ntmps27
  go_wp2_with fail
  go_loopw [5] (fun i wr => ∃ j m : Nat, j ≤ n ∧ i = .int .i64 (j : Int) ∧ Hid (wr = w.drewN m)) (fun i _ => n - (intOf i).toNat)
  case atStart => exact ⟨0, 0, by omega, rfl, rfl⟩
  case round =>
    obtain ⟨j, m, hj, rfl, HW⟩ := hrel
    by_cases hlt : j < n
    · obtain ⟨f, hf⟩ : ∃ f, l[j]? = some f := ⟨_, List.getElem?_eq_getElem (by rw [← HN.out]; exact hlt)⟩
      obtain ⟨g1, e1, d1⟩ := H1.out.at_ (by omega)
      obtain ⟨g2, e2, d2⟩ := H2.out.at_ (by omega)
      subst e1 e2
      have D1 : ∀ i u, i < 4 → (fc1 f)[i]? = some u → wr.cell? ⟨g1, j * 4 + i, none⟩ = some u := fun i u hi hu => by rw [HW.out]; exact d1 _ _ (by rw [fcs_at l hf i hi]; exact hu)
      have D2 : ∀ i u, i < 4 → (fc1 f)[i]? = some u → wr.cell? ⟨g2, j * 4 + i, none⟩ = some u := fun i u hi hu => by rw [HW.out]; exact d2 _ _ (by rw [fcs_at l hf i hi]; exact hu)
      have x0 : wr.cell? ⟨g1, j * 4, none⟩ = some _ := D1 0 _ (by omega) rfl
      have y0 : wr.cell? ⟨g2, j * 4, none⟩ = some _ := D2 0 _ (by omega) rfl
      have x1 := D1 1 _ (by omega) rfl
      have y1 := D2 1 _ (by omega) rfl
      have x2 := D1 2 _ (by omega) rfl
      have y2 := D2 2 _ (by omega) rfl
      have x3 := D1 3 _ (by omega) rfl
      have y3 := D2 3 _ (by omega) rfl
      have hi1 : (j : Int) < (n : Int) := by omega
      have hne := fun w => neq35 w f
      obtain ⟨p0, p1, p2, p3, p4⟩ := f
      simp only [fc1] at hne
      clear d1 d2 hf D1 D2
      go_wp2_with fail
      go_quiet (fail)
      go_wp2_with fail
      exact ⟨⟨j + 1, m + nq, by omega, by go_num, by show _ = _; rw [HW.out, World.drewN_drewN]⟩, by simp [intOf]; omega⟩
    · go_wp2_with fail
      go_ret
      exact ⟨rfl, by rw [HW.out]; exact (Fr.drewN (fun _ => False) o0 w m).below (Nat.le_refl _) (fun _ _ h => h)⟩
theorem part_int {P : Program} (w : World) (elem : TypeId) (k : IntKind) (he : P.underlying elem = some (.int k)) (xs : Array Value) (i : Nat) (v : Value) (hv : xs[i]? = some v) :
    (part elem xs i).run P w = .ok v w := by
  simp [part, isAgg, run_underlying he, hv]
theorem run_same_cells {P : Program} (w : World) (d : Nat) (elem : TypeId) (k : IntKind) (xs : Array Value) (he : P.underlying elem = some (.int k)) (l : List Nat) (hx : ∀ i ∈ l, ∃ q a, xs[i]? = some (.int q a)) :
    Sem.run P (forIn l ((none : Option Bool), ()) fun i _ => do
            let a ← part elem xs (i * 1)
            let b ← part elem xs (i * 1)
            let r ← Op.equalIn (d + 1) elem a b
            if (!r) = true then pure (ForInStep.done (some false, ())) else pure (ForInStep.yield (none, ()))) w = .ok (none, ()) w := by
  induction l with
  | nil => simp
  | cons i l ih =>
    obtain ⟨q, a, h⟩ := hx i (by simp)
    have hp := part_int (P := P) w elem k he xs (i * 1) _ (by rw [Nat.mul_one]; exact h)
    have he' := run_equalIn_int (P := P) w d elem q k a a he
    simp only [List.forIn_cons, Sem.run_bind, hp, Result.andThen_ok, he', beq_self_eq_true, Bool.not_true, Bool.false_eq_true, if_false, Sem.run_pure]
    exact ih (fun j hj => hx j (by simp [hj]))
theorem run_equalIn_array_self {P : Program} (w : World) (d : Nat) (t elem : TypeId) (len : Nat) (k : IntKind) (xs : Array Value) (ht : P.underlying t = some (.array len elem)) (he : P.underlying elem = some (.int k))
    (hs : (sizeOf elem).run P w = .ok 1 w) (hx : ∀ i, i < len → ∃ q a, xs[i]? = some (.int q a)) :
    (Op.equalIn (d + 1 + 1) t (.agg xs) (.agg xs)).run P w = .ok true w := by
  rw [Op.equalIn]
  simp only [Sem.run_bind, run_underlying ht, Result.andThen_ok, hs]
  rw [Std.Legacy.Range.forIn_eq_forIn_range', run_same_cells w d elem k xs he _ (fun i hi => hx i (by simpa using hi))]
  simp
theorem eqa30 (w : World) : (Op.equalIn 10000 30 (.agg #[.int .i64 0, .int .i64 0, .int .i64 0, .int .i64 0]) (.agg #[.int .i64 0, .int .i64 0, .int .i64 0, .int .i64 0])).run Tryd.prog w = .ok true w :=
  run_equalIn_array_self (P := Tryd.prog) w 9998 30 3 4 .i64 #[.int .i64 0, .int .i64 0, .int .i64 0, .int .i64 0] Tryd.underlying30 Tryd.underlying3 (by kernel_rfl) (fun i hi => by
    rcases i with _ | _ | _ | _ | i
    · exact ⟨.i64, 0, rfl⟩
    · exact ⟨.i64, 0, rfl⟩
    · exact ⟨.i64, 0, rfl⟩
    · exact ⟨.i64, 0, rfl⟩
    · omega)
set_option maxRecDepth 100000 in
set_option maxHeartbeats 1000000 in
/-- Answers: two that are the same, their values wherever they lie. -/
theorem answers_any (k : Int) (g : Bool) (n : Int) (t : ByteArray) {a1 a2 : Option Addr} {m c1 c2 : Nat} (l : List En) (hm : m ≤ 2000000) (w : World) (h1 : Lst w 4 a1 m (fcs l)) (h2 : Lst w 4 a2 m (fcs l)) :
    Calls Tryd.prog 16 #[.agg #[.int .i64 k, .slice a1 m c1, .bool g, .int .u64 n, .string t, .int .i64 0, .int .i64 0, .int .i64 0, .int .i64 0], .agg #[.int .i64 k, .slice a2 m c2, .bool g, .int .u64 n, .string t, .int .i64 0, .int .i64 0, .int .i64 0, .int .i64 0]] w fun e w' => e = .returned (.bool true) ∧ Below w.heap.size w w' := by
  obtain ⟨W, hW⟩ : ∃ W, W = ((w.alloc (.cells #[.int .i64 k, .slice a1 m c1, .bool g, .int .u64 n, .string t, .int .i64 0, .int .i64 0, .int .i64 0, .int .i64 0] 32)).alloc (.cells #[.int .i64 k, .slice a2 m c2, .bool g, .int .u64 n, .string t, .int .i64 0, .int .i64 0, .int .i64 0, .int .i64 0] 32)) := ⟨_, rfl⟩
  have HB : Hid (Below w.heap.size w W) := Lib.hid (by rw [hW]; exact (below_alloc _ _).trans ((below_alloc _ _).mono (by simp)))
  have SF := Lib.hid (same_found (c1 := c1) (c2 := c2) l m hm W (h1.below HB.out) (h2.below HB.out))
  have cell1 : Hid (∀ j u, (#[.int .i64 k, .slice a1 m c1, .bool g, .int .u64 n, .string t, .int .i64 0, .int .i64 0, .int .i64 0, .int .i64 0] : Array Value)[j]? = some u → W.cell? ⟨w.heap.size, j, none⟩ = some u) := Lib.hid (fun j u hu => by
    rw [hW, Below.cell (p := ⟨w.heap.size, j, none⟩) (below_alloc _ _) (by simp), World.cell?_alloc_new]; exact hu)
  have cell2 : Hid (∀ j u, (#[.int .i64 k, .slice a2 m c2, .bool g, .int .u64 n, .string t, .int .i64 0, .int .i64 0, .int .i64 0, .int .i64 0] : Array Value)[j]? = some u → W.cell? ⟨w.heap.size + 1, j, none⟩ = some u) := Lib.hid (fun j u hu => by
    have := World.cell?_alloc_new (w.alloc (.cells #[.int .i64 k, .slice a1 m c1, .bool g, .int .u64 n, .string t, .int .i64 0, .int .i64 0, .int .i64 0, .int .i64 0] 32)) #[.int .i64 k, .slice a2 m c2, .bool g, .int .u64 n, .string t, .int .i64 0, .int .i64 0, .int .i64 0, .int .i64 0] 32 j
    rw [World.size_alloc] at this
    rw [hW, this]; exact hu)
  have dt : (t.toList == t.toList) = true := by simp
  have dk : (k == k) = true := by simp
  have dn : (n == n) = true := by simp
  have dg : (g == g) = true := by simp
  have e30 := eqa30
  have HW0 := Lib.hid hW
  clear h1 h2 hW
  go_enter Tryd.func16, Tryd.ntmps16
  go_wp2_with fail
  rw [← HW0.out]
  refine SF.out.mono ?_
  rintro e w3 ⟨rfl, hb⟩
  have cells : ∀ (b j : Nat) (u : Value), W.cell? ⟨b, j, none⟩ = some u → w3.cell? ⟨b, j, none⟩ = some u := fun b j u h => (hb.cell (p := ⟨b, j, none⟩) (World.block_lt_of_cell? _ _ h)).trans h
  have x2 := cells _ _ _ (cell1.out 2 _ rfl)
  have y2 := cells _ _ _ (cell2.out 2 _ rfl)
  have x3 := cells _ _ _ (cell1.out 3 _ rfl)
  have y3 := cells _ _ _ (cell2.out 3 _ rfl)
  have x4 := cells _ _ _ (cell1.out 4 _ rfl)
  have y4 := cells _ _ _ (cell2.out 4 _ rfl)
  have x5 := cells _ _ _ (cell1.out 5 _ rfl)
  have y5 := cells _ _ _ (cell2.out 5 _ rfl)
  have x6 := cells _ _ _ (cell1.out 6 _ rfl)
  have y6 := cells _ _ _ (cell2.out 6 _ rfl)
  have x7 := cells _ _ _ (cell1.out 7 _ rfl)
  have y7 := cells _ _ _ (cell2.out 7 _ rfl)
  have x8 := cells _ _ _ (cell1.out 8 _ rfl)
  have y8 := cells _ _ _ (cell2.out 8 _ rfl)
  have HB3 := Lib.hid (HB.out.trans (hb.mono HB.out.size))
  clear hb cells HB SF cell1 cell2 HW0
  go_wp2_with fail
  go_ret
  exact ⟨rfl, HB3.out⟩
end Go.Proofs.YtpkmfckifnomeaaDoor
