/-
  EQUALITY OF TWO FIELDS OF TABLES: a struct of two arrays of bytes, held against itself, is the same.
-/
import Derived.Test.YtadabbodjkdkdaaCalls
import Derived.Laws.StructEq
namespace Go.Proofs.Ytadabbodjkdkdaa
open Go.RowKit
theorem part_int {P : Program} (w : World) (elem : TypeId) (k : IntKind) (he : P.underlying elem = some (.int k)) (xs : Array Value) (i : Nat) (v : Value) (hv : xs[i]? = some v) :
    (part elem xs i).run P w = .ok v w := by
  simp [part, isAgg, run_underlying he, hv]

theorem run_same_cells {P : Program} (w : World) (d : Nat) (elem : TypeId) (k : IntKind) (xs : Array Value) (he : P.underlying elem = some (.int k)) (l : List Nat) (hx : ∀ i ∈ l, ∃ q a, xs[i]? = some (.int q a)) :
    Sem.run P (forIn l ((none : Option Bool), ()) fun i _ => do
            let a ← part elem xs (i * 1)
            let b ← part elem xs (i * 1)
            let r ← Op.equalIn (d + 1) elem a b
            if (!r) = true then pure (ForInStep.done (some false, ())) else pure (ForInStep.yield (none, ()))) w = .ok (none, ()) w := by
  induction l with
  | nil => simp
  | cons i l ih =>
    obtain ⟨q, a, h⟩ := hx i (by simp)
    have hp := part_int (P := P) w elem k he xs (i * 1) _ (by rw [Nat.mul_one]; exact h)
    have he' := run_equalIn_int (P := P) w d elem q k a a he
    simp only [List.forIn_cons, Sem.run_bind, hp, Result.andThen_ok, he', beq_self_eq_true, Bool.not_true, Bool.false_eq_true, if_false, Sem.run_pure]
    exact ih (fun j hj => hx j (by simp [hj]))
theorem run_equalIn_array_self {P : Program} (w : World) (d : Nat) (t elem : TypeId) (len : Nat) (k : IntKind) (xs : Array Value) (ht : P.underlying t = some (.array len elem)) (he : P.underlying elem = some (.int k))
    (hs : (sizeOf elem).run P w = .ok 1 w) (hx : ∀ i, i < len → ∃ q a, xs[i]? = some (.int q a)) :
    (Op.equalIn (d + 1 + 1) t (.agg xs) (.agg xs)).run P w = .ok true w := by
  rw [Op.equalIn]
  simp only [Sem.run_bind, run_underlying ht, Result.andThen_ok, hs]
  rw [Std.Legacy.Range.forIn_eq_forIn_range', run_same_cells w d elem k xs he _ (fun i hi => hx i (by simpa using hi))]
  simp
theorem size5 (w : World) : (sizeOf 5).run Try.prog w = .ok 1 w := by kernel_rfl
theorem size22 (w : World) : (sizeOf 22).run Try.prog w = .ok 510 w := by kernel_rfl
theorem size23 (w : World) : (sizeOf 23).run Try.prog w = .ok 256 w := by kernel_rfl
theorem fields25 : (Try.prog.fieldsOf 25).toList.map (fun f => (f.name, f.type, f.offset)) = [("Exp", 22, 0), ("Log", 23, 510)] := by kernel_rfl
theorem stood25 : Try.prog.stoodInHeld 25 = false := by kernel_rfl
theorem under25 : Try.prog.underlying 25 = some (.struct (Try.prog.fieldsOf 25)) := by kernel_rfl
theorem part_arr (w : World) (t len : Nat) (e : TypeId) (ht : Try.prog.underlying t = some (.array len e)) (n : Nat) (hs : (sizeOf t).run Try.prog w = .ok n w) (xs : Array Value) (o : Nat) :
    (part t xs o).run Try.prog w = .ok (.agg (xs.extract o (o + n))) w := by
  simp [part, isAgg, run_underlying ht, hs]
theorem eqf (w : World) (d : Nat) (T : Array Value) (f1 f2 : Field) (n1 : f1.name = "Exp") (t1 : f1.type = 22) (o1 : f1.offset = 0) (n2 : f2.name = "Log") (t2 : f2.type = 23) (o2 : f2.offset = 510) (A B : Value)
    (p1 : (part 22 T 0).run Try.prog w = .ok A w) (p2 : (part 23 T 510).run Try.prog w = .ok B w) (q1 : (Op.equalIn d 22 A A).run Try.prog w = .ok true w) (q2 : (Op.equalIn d 23 B B).run Try.prog w = .ok true w) :
    (Op.eqFields d T T [f1, f2]).run Try.prog w = .ok true w := by
  have m1 : f1.name ≠ "_" := by rw [n1]; decide
  have m2 : f2.name ≠ "_" := by rw [n2]; decide
  rw [Op.eqFields, if_pos m1, t1, o1]
  simp only [Sem.run_bind, p1, Result.andThen_ok, q1, Bool.not_true, Bool.false_eq_true, if_false]
  rw [Op.eqFields, if_pos m2, t2, o2]
  simp only [Sem.run_bind, p2, Result.andThen_ok, q2, Bool.not_true, Bool.false_eq_true, if_false, Op.eqFields, Sem.run_pure]
theorem arrs25 (w : World) (d : Nat) (T : Array Value) (hs : 766 ≤ T.size) (hT : ∀ i, i < 766 → ∃ q a, T[i]? = some (.int q a)) :
    (Op.equalIn (d + 1 + 1) 22 (.agg (T.extract 0 (0 + 510))) (.agg (T.extract 0 (0 + 510)))).run Try.prog w = .ok true w ∧
    (Op.equalIn (d + 1 + 1) 23 (.agg (T.extract 510 (510 + 256))) (.agg (T.extract 510 (510 + 256)))).run Try.prog w = .ok true w := by
  refine ⟨run_equalIn_array_self (P := Try.prog) w d 22 5 510 .u8 (T.extract 0 (0 + 510)) Try.underlying22 Try.underlying5 (size5 w) (fun i hi => ?_),
    run_equalIn_array_self (P := Try.prog) w d 23 5 256 .u8 (T.extract 510 (510 + 256)) Try.underlying23 Try.underlying5 (size5 w) (fun i hi => ?_)⟩
  · obtain ⟨q, a, h⟩ := hT i (by omega)
    exact ⟨q, a, by rw [Array.getElem?_extract, if_pos (by omega), Nat.zero_add]; exact h⟩
  · obtain ⟨q, a, h⟩ := hT (510 + i) (by omega)
    exact ⟨q, a, by rw [Array.getElem?_extract, if_pos (by omega)]; exact h⟩
theorem fields25' : ∃ f1 f2, (Try.prog.fieldsOf 25).toList = [f1, f2] ∧ f1.name = "Exp" ∧ f1.type = 22 ∧ f1.offset = 0 ∧ f2.name = "Log" ∧ f2.type = 23 ∧ f2.offset = 510 := by
  have hf := fields25
  generalize (Try.prog.fieldsOf 25).toList = fs at hf
  rcases fs with _ | ⟨f1, fs⟩
  · simp at hf
  rcases fs with _ | ⟨f2, fs⟩
  · simp at hf
  rcases fs with _ | ⟨f3, fs⟩
  · simp only [List.map_cons, List.map_nil, List.cons.injEq, Prod.mk.injEq, and_true] at hf
    obtain ⟨⟨n1, t1, o1⟩, n2, t2, o2⟩ := hf
    exact ⟨f1, f2, rfl, n1, t1, o1, n2, t2, o2⟩
  · simp at hf
theorem eql25 (w : World) (D d : Nat) (hD : D = d + 1 + 1 + 1) (T : Array Value) (hs : 766 ≤ T.size) (hT : ∀ i, i < 766 → ∃ q a, T[i]? = some (.int q a)) :
    (Op.equalIn D 25 (.agg T) (.agg T)).run Try.prog w = .ok true w := by
  obtain ⟨q1, q2⟩ := arrs25 w d T hs hT
  obtain ⟨f1, f2, hl, n1, t1, o1, n2, t2, o2⟩ := fields25'
  have h := eqf w (d + 1 + 1) T f1 f2 n1 t1 o1 n2 t2 o2 _ _ (part_arr w 22 510 5 Try.underlying22 510 (size22 w) T 0) (part_arr w 23 256 5 Try.underlying23 256 (size23 w) T 510) q1 q2
  have h2 := run_equalIn_struct w (d + 1 + 1) 25 T T under25 stood25
  rw [hl] at h2
  subst hD
  exact h2.trans h
end Go.Proofs.Ytadabbodjkdkdaa
