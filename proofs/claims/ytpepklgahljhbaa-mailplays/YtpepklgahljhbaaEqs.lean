/-
  FRAMES HELD AGAINST EACH OTHER.
-/
import Derived.Test.YtpepklgahljhbaaLeft
import Derived.Laws.StructEq
namespace Go.Proofs.Ytpepklgahljhbaa
open Go.Conc Go.RowKit

theorem under26 : Try.prog.underlying 26 = some (.struct (Try.prog.fieldsOf 26)) := by kernel_rfl
theorem stood26 : Try.prog.stoodInHeld 26 = false := by kernel_rfl
theorem fields26 : (Try.prog.fieldsOf 26).toList.map (fun f => (f.name, f.type, f.offset)) = [("Kind", 3, 0), ("Slot", 3, 1), ("Inc", 3, 2), ("Rid", 3, 3), ("Floor", 3, 4), ("Role", 3, 5), ("Key", 9, 6), ("Version", 3, 7), ("Data", 9, 8)] := by kernel_rfl
theorem part1 (w : World) (t : TypeId) (ht : Try.prog.underlying t = some (.int .i64) ∨ Try.prog.underlying t = some .string) (xs : Array Value) (i : Nat) (v : Value) (hv : xs[i]? = some v) : (part t xs i).run Try.prog w = .ok v w := by
  rcases ht with ht | ht <;> simp [part, isAgg, run_underlying ht, hv]
/-- Fields that are all the same. -/
theorem eq_fields (w : World) (d : Nat) (xs : Array Value) : ∀ (fs : List Field), (∀ f ∈ fs, (Try.prog.underlying f.type = some (.int .i64) ∧ ∃ z, xs[f.offset]? = some (.int .i64 z)) ∨ (Try.prog.underlying f.type = some .string ∧ ∃ s, xs[f.offset]? = some (.string s))) → (Op.eqFields (d + 1) xs xs fs).run Try.prog w = .ok true w
  | [], _ => by simp [Op.eqFields]
  | f :: fs, h => by
    have ih := eq_fields w d xs fs (fun g hg => h g (List.mem_cons_of_mem _ hg))
    unfold Op.eqFields
    split
    · rcases h f List.mem_cons_self with ⟨ht, z, hz⟩ | ⟨ht, s, hs⟩
      · have hp := part1 w f.type (.inl ht) xs f.offset _ hz
        have he : (Op.equalIn (d + 1) f.type (.int .i64 z) (.int .i64 z)).run Try.prog w = .ok true w := by simp [Op.equalIn, run_underlying ht]
        simp only [Sem.run_bind, hp, Result.andThen_ok, he, Bool.not_true, Bool.false_eq_true, if_false]
        exact ih
      · have hp := part1 w f.type (.inr ht) xs f.offset _ hs
        have he : (Op.equalIn (d + 1) f.type (.string s) (.string s)).run Try.prog w = .ok true w := by simp [Op.equalIn, run_underlying ht, beq_toListBytes]
        simp only [Sem.run_bind, hp, Result.andThen_ok, he, Bool.not_true, Bool.false_eq_true, if_false]
        exact ih
    · exact ih
theorem eq26 (w : World) (d : Nat) (f : F) : (Op.equalIn (d + 1 + 1) 26 f.v f.v).run Try.prog w = .ok true w := by
  show (Op.equalIn (d + 1 + 1) 26 (.agg f.cs.toArray) (.agg f.cs.toArray)).run Try.prog w = .ok true w
  rw [run_equalIn_struct w (d + 1) 26 _ _ under26 stood26]
  refine eq_fields w d _ _ (fun g hg => ?_)
  have hm : (g.name, g.type, g.offset) ∈ (Try.prog.fieldsOf 26).toList.map (fun f => (f.name, f.type, f.offset)) := List.mem_map_of_mem hg
  rw [fields26] at hm
  have e3 : Try.prog.underlying 3 = some (.int .i64) := Try.underlying3
  have e9 : Try.prog.underlying 9 = some .string := Try.underlying9
  simp only [List.mem_cons, List.not_mem_nil, or_false, Prod.mk.injEq] at hm
  rcases hm with ⟨_, t, o⟩ | ⟨_, t, o⟩ | ⟨_, t, o⟩ | ⟨_, t, o⟩ | ⟨_, t, o⟩ | ⟨_, t, o⟩ | ⟨_, t, o⟩ | ⟨_, t, o⟩ | ⟨_, t, o⟩ <;> rw [t, o]
  · exact .inl ⟨e3, _, rfl⟩
  · exact .inl ⟨e3, _, rfl⟩
  · exact .inl ⟨e3, _, rfl⟩
  · exact .inl ⟨e3, _, rfl⟩
  · exact .inl ⟨e3, _, rfl⟩
  · exact .inl ⟨e3, _, rfl⟩
  · exact .inr ⟨e9, _, rfl⟩
  · exact .inl ⟨e3, _, rfl⟩
  · exact .inr ⟨e9, _, rfl⟩
theorem eqg26 : Try.prog.eqGuardType Try.prog.depth 26 = false := by kernel_rfl
/-- '!=' of a frame and itself. -/
theorem neq26 (w : World) (f : F) : (binOp .neq 26 f.v f.v).run Try.prog w = .ok (.bool false) w := by
  have h : (Op.equal 26 f.v f.v).run Try.prog w = .ok true w := by
    unfold Op.equal
    exact eq26 w _ f
  have e : (binOp .neq 26 f.v f.v) = (do pure (.bool (!(← Op.equal 26 f.v f.v)))) := rfl
  rw [e]
  simp only [Sem.run_bind, h, Result.andThen_ok, Sem.run_pure, Bool.not_true]
end Go.Proofs.Ytpepklgahljhbaa
