/-
  OPENING of a frame that came in by value.
-/
import Derived.Test.YtcdkpflhpeflcaaEqs
import Derived.SizedLaws
import Derived.ChangeArms
namespace Go.Proofs.Ytcdkpflhpeflcaa
open Go.RowKit Go.ChangeShapes Go.WideShapes

theorem names25 : ((Try.prog.fieldsOf 25).toList.map fun f => (f.type, f.offset)) = [(3, 0), (3, 1), (3, 2), (3, 3), (3, 4), (3, 5), (9, 6), (3, 7), (9, 8)] := by kernel_rfl
theorem fields25s : ∃ f0 f1 f2 f3 f4 f5 f6 f7 f8, Try.prog.underlying 25 = some (.struct #[f0, f1, f2, f3, f4, f5, f6, f7, f8]) ∧ (f0.type = 3 ∧ f0.offset = 0) ∧ (f1.type = 3 ∧ f1.offset = 1) ∧ (f2.type = 3 ∧ f2.offset = 2) ∧ (f3.type = 3 ∧ f3.offset = 3) ∧ (f4.type = 3 ∧ f4.offset = 4) ∧ (f5.type = 3 ∧ f5.offset = 5) ∧ (f6.type = 9 ∧ f6.offset = 6) ∧ (f7.type = 3 ∧ f7.offset = 7) ∧ f8.type = 9 ∧ f8.offset = 8 := by
  have h := names25
  have h2 := under25
  generalize Try.prog.fieldsOf 25 = F at h h2
  obtain ⟨l⟩ := F
  rcases l with _ | ⟨f0, _ | ⟨f1, _ | ⟨f2, _ | ⟨f3, _ | ⟨f4, _ | ⟨f5, _ | ⟨f6, _ | ⟨f7, _ | ⟨f8, _ | ⟨f9, l⟩⟩⟩⟩⟩⟩⟩⟩⟩⟩ <;> simp at h
  exact ⟨f0, f1, f2, f3, f4, f5, f6, f7, f8, h2, h.1, h.2.1, h.2.2.1, h.2.2.2.1, h.2.2.2.2.1, h.2.2.2.2.2.1, h.2.2.2.2.2.2.1, h.2.2.2.2.2.2.2.1, h.2.2.2.2.2.2.2.2⟩
theorem open_frame {H : Type} {enc : TypeId × Value → H} {W : World} {base fuel : Nat} {spare : Nat → Bool} {held : Bool} {cs : List Value} {x : DataW H × List MemPlace}
    (h : DataW.trod enc Try.prog W base spare held fuel 25 cs = some x) : ∃ f : F, cs = f.cs ∧ f.key.size ∈ x.1.weights Try.prog 25 ∧ f.data.size ∈ x.1.weights Try.prog 25 := by
  obtain ⟨f0, f1, f2, f3, f4, f5, f6, f7, f8, he, ⟨t0, o0⟩, ⟨t1, o1⟩, ⟨t2, o2⟩, ⟨t3, o3⟩, ⟨t4, o4⟩, ⟨t5, o5⟩, ⟨t6, o6⟩, ⟨t7, o7⟩, t8, o8⟩ := fields25s
  obtain ⟨xs, k, hk, hxy, hlen, hxl, hf⟩ := DataW.trod_struct he h
  rw [show Try.prog.cellsOf 25 = 9 by kernel_rfl] at hlen
  rcases cs with _ | ⟨c0, _ | ⟨c1, _ | ⟨c2, _ | ⟨c3, _ | ⟨c4, _ | ⟨c5, _ | ⟨c6, _ | ⟨c7, _ | ⟨c8, _ | ⟨c9, cs⟩⟩⟩⟩⟩⟩⟩⟩⟩⟩ <;> simp at hlen
  rcases xs with _ | ⟨y0, _ | ⟨y1, _ | ⟨y2, _ | ⟨y3, _ | ⟨y4, _ | ⟨y5, _ | ⟨y6, _ | ⟨y7, _ | ⟨y8, _ | ⟨y9, xs⟩⟩⟩⟩⟩⟩⟩⟩⟩⟩ <;> simp at hxl
  have g0 := hf 0 f0 rfl
  have g1 := hf 1 f1 rfl
  have g2 := hf 2 f2 rfl
  have g3 := hf 3 f3 rfl
  have g4 := hf 4 f4 rfl
  have g5 := hf 5 f5 rfl
  have g6 := hf 6 f6 rfl
  have g7 := hf 7 f7 rfl
  have g8 := hf 8 f8 rfl
  have s3 : Try.prog.cellsOf 3 = 1 := by kernel_rfl
  have s9 : Try.prog.cellsOf 9 = 1 := by kernel_rfl
  rw [t0, o0, s3] at g0
  rw [t1, o1, s3] at g1
  rw [t2, o2, s3] at g2
  rw [t3, o3, s3] at g3
  rw [t4, o4, s3] at g4
  rw [t5, o5, s3] at g5
  rw [t6, o6, s9] at g6
  rw [t7, o7, s3] at g7
  rw [t8, o8, s9] at g8
  simp at g0 g1 g2 g3 g4 g5 g6 g7 g8
  obtain ⟨z0, q0, _⟩ := DataW.trod_int Try.underlying3 g0
  obtain ⟨z1, q1, _⟩ := DataW.trod_int Try.underlying3 g1
  obtain ⟨z2, q2, _⟩ := DataW.trod_int Try.underlying3 g2
  obtain ⟨z3, q3, _⟩ := DataW.trod_int Try.underlying3 g3
  obtain ⟨z4, q4, _⟩ := DataW.trod_int Try.underlying3 g4
  obtain ⟨z5, q5, _⟩ := DataW.trod_int Try.underlying3 g5
  obtain ⟨z6, q6, v6, _⟩ := DataW.trod_string Try.underlying9 g6
  obtain ⟨z7, q7, _⟩ := DataW.trod_int Try.underlying3 g7
  obtain ⟨z8, q8, v8, _⟩ := DataW.trod_string Try.underlying9 g8
  injection q0 with q0
  injection q1 with q1
  injection q2 with q2
  injection q3 with q3
  injection q4 with q4
  injection q5 with q5
  injection q6 with q6
  injection q7 with q7
  injection q8 with q8
  have hw : x.1.weights Try.prog 25 = DataW.weightsEach Try.prog [f0.type, f1.type, f2.type, f3.type, f4.type, f5.type, f6.type, f7.type, f8.type] [y0.1, y1.1, y2.1, y3.1, y4.1, y5.1, y6.1, y7.1, y8.1] := by
    rw [hxy]
    simp only [DataW.weights, he, List.map_cons, List.map_nil]
  refine ⟨⟨z0, z1, z2, z3, z4, z5, z6, z7, z8⟩, by rw [q0, q1, q2, q3, q4, q5, q6, q7, q8]; rfl, ?_, ?_⟩
  · rw [hw]
    refine DataW.weights_mem_each (j := 6) (t := 9) (d := .lit (.string z6.data.toList)) (by simp [t6]) (by simp [v6]) _ ?_
    simp only [DataW.weights, List.mem_singleton]; exact (size_len _).symm
  · rw [hw]
    refine DataW.weights_mem_each (j := 8) (t := 9) (d := .lit (.string z8.data.toList)) (by simp [t8]) (by simp [v8]) _ ?_
    simp only [DataW.weights, List.mem_singleton]; exact (size_len _).symm
end Go.Proofs.Ytcdkpflhpeflcaa
