/-
  OPENING of calls that came in: a list of structs of five cells.
-/
import Derived.Test.YtbflcnghpkmcoaaAsks
import Derived.Deep.SlicePairs
namespace Go.Proofs.Ytbflcnghpkmcoaa
open Go.RowKit Go.ChangeShapes Go.WideShapes Go.Deep

theorem under37 : Try.prog.underlying 37 = some (.slice 42) := by kernel_rfl
theorem under42s : Try.prog.underlying 42 = some (.struct (Try.prog.fieldsOf 42)) := by kernel_rfl
theorem names42 : ((Try.prog.fieldsOf 42).toList.map fun f => (f.type, f.offset)) = [(3, 0), (3, 1), (9, 2), (9, 3), (4, 4)] := by kernel_rfl
theorem fields42 : ∃ f0 f1 f2 f3 f4, Try.prog.underlying 42 = some (.struct #[f0, f1, f2, f3, f4]) ∧ f0.type = 3 ∧ f0.offset = 0 ∧ f1.type = 3 ∧ f1.offset = 1 ∧ f2.type = 9 ∧ f2.offset = 2 ∧ f3.type = 9 ∧ f3.offset = 3 ∧ f4.type = 4 ∧ f4.offset = 4 := by
  have h := names42
  have h2 := under42s
  generalize Try.prog.fieldsOf 42 = F at h h2
  obtain ⟨l⟩ := F
  rcases l with _ | ⟨f0, _ | ⟨f1, _ | ⟨f2, _ | ⟨f3, _ | ⟨f4, _ | ⟨f5, l⟩⟩⟩⟩⟩⟩
  · simp at h
  · simp at h
  · simp at h
  · simp at h
  · simp at h
  · simp at h
    exact ⟨f0, f1, f2, f3, f4, h2, h.1.1, h.1.2, h.2.1.1, h.2.1.2, h.2.2.1.1, h.2.2.1.2, h.2.2.2.1.1, h.2.2.2.1.2, h.2.2.2.2.1, h.2.2.2.2.2⟩
  · simp at h
theorem open_asks {H : Type} {enc : TypeId × Value → H} {W : World} {base fuel : Nat} {spare : Nat → Bool} {held : Bool} {a : Option Addr} {len cap : Nat} {x : DataW H × List MemPlace}
    (h : DataW.trod enc Try.prog W base spare held fuel 37 (Value.slice a len cap).cells.toList = some x) : ∃ q, AskF W a q len ∧ len ≤ 9223372036854775807 := by
  obtain ⟨f0, f1, f2, f3, f4, he, t0, o0, t1, o1, t2, o2, t3, o3, t4, o4⟩ := fields42
  have ce : Try.prog.cellsOf 42 = 5 := by kernel_rfl
  rcases open_slice under37 h with ⟨hcs, _⟩ | ⟨ad, l, c, m, n, D, Pl, hcs, hb, hl, hm, hmm, rfl, hx⟩
  · simp [Value.cells] at hcs
    obtain ⟨rfl, rfl, rfl⟩ := hcs
    exact ⟨fun _ => ⟨0, 0, ⟨#[]⟩, ⟨#[]⟩, false⟩, Or.inl rfl, by omega⟩
  · simp [Value.cells] at hcs
    obtain ⟨rfl, rfl, rfl⟩ := hcs
    have hlm : len ≤ m := by rw [hmm]; split <;> omega
    have hmax : len ≤ 9223372036854775807 := by unfold maxLen at hm; omega
    have each : ∀ i, i < len → ∃ q : AskD, W.cell? (ad.add (i * 5)) = some (.int .i64 q.K) ∧ W.cell? (ad.add (i * 5 + 1)) = some (.int .i64 q.Z) ∧ W.cell? (ad.add (i * 5 + 2)) = some (.string q.Y) ∧ W.cell? (ad.add (i * 5 + 3)) = some (.string q.D) ∧ W.cell? (ad.add (i * 5 + 4)) = some (.bool q.T) := fun i hi => by
      obtain ⟨cs', h1, h2⟩ := hx i (by omega)
      rw [ce] at h1
      obtain ⟨_, hlen, hcell⟩ := World.cells?_some h1
      obtain ⟨xs, k, hk, hxy, _, hxl, hf⟩ := DataW.trod_struct he h2
      rcases cs' with _ | ⟨c0, _ | ⟨c1, _ | ⟨c2, _ | ⟨c3, _ | ⟨c4, _ | ⟨c5, cs'⟩⟩⟩⟩⟩⟩ <;> simp at hlen
      rcases xs with _ | ⟨y0, _ | ⟨y1, _ | ⟨y2, _ | ⟨y3, _ | ⟨y4, _ | ⟨y5, xs⟩⟩⟩⟩⟩⟩ <;> simp at hxl
      have g0 := hf 0 f0 rfl
      have g1 := hf 1 f1 rfl
      have g2 := hf 2 f2 rfl
      have g3 := hf 3 f3 rfl
      have g4 := hf 4 f4 rfl
      rw [t0, o0, show Try.prog.cellsOf 3 = 1 by kernel_rfl] at g0
      rw [t1, o1, show Try.prog.cellsOf 3 = 1 by kernel_rfl] at g1
      rw [t2, o2, show Try.prog.cellsOf 9 = 1 by kernel_rfl] at g2
      rw [t3, o3, show Try.prog.cellsOf 9 = 1 by kernel_rfl] at g3
      rw [t4, o4, show Try.prog.cellsOf 4 = 1 by kernel_rfl] at g4
      simp at g0 g1 g2 g3 g4
      have e0 := hcell 0 (by simp)
      have e1 := hcell 1 (by simp)
      have e2 := hcell 2 (by simp)
      have e3 := hcell 3 (by simp)
      have e4 := hcell 4 (by simp)
      rw [add_add] at e0 e1 e2 e3 e4
      obtain ⟨z0, q0, _⟩ := DataW.trod_int Try.underlying3 g0
      obtain ⟨z1, q1, _⟩ := DataW.trod_int Try.underlying3 g1
      obtain ⟨s2, q2, _⟩ := DataW.trod_string Try.underlying9 g2
      obtain ⟨s3, q3, _⟩ := DataW.trod_string Try.underlying9 g3
      obtain ⟨b4, q4, _⟩ := DataW.trod_bool Try.underlying4 g4
      injection q0 with q0
      injection q1 with q1
      injection q2 with q2
      injection q3 with q3
      injection q4 with q4
      exact ⟨⟨z0, z1, s2, s3, b4⟩, by simpa [q0] using e0, by simpa [q1] using e1, by simpa [q2] using e2, by simpa [q3] using e3, by simpa [q4] using e4⟩
    have inh : Inhabited AskD := ⟨⟨0, 0, ⟨#[]⟩, ⟨#[]⟩, false⟩⟩
    obtain ⟨q, hq⟩ := Go.Deep.choose_lt each
    refine ⟨q, ?_, hmax⟩
    by_cases n0 : len = 0
    · exact Or.inl n0
    · obtain ⟨p, off, spot⟩ := ad
      have hspot : spot = none := by simpa [Addr.add] using World.cell?_spot (hq 0 (by omega)).1
      subst hspot
      refine Or.inr ⟨p, off, rfl, fun i hi => ?_⟩
      have h1 := hq i hi
      have e : ∀ j, (⟨p, off, none⟩ : Addr).add j = ⟨p, off + j, none⟩ := fun j => by unfold Addr.add; split <;> simp_all
      rw [e, e, e, e, e, ← Nat.add_assoc, ← Nat.add_assoc, ← Nat.add_assoc, ← Nat.add_assoc] at h1
      exact h1
end Go.Proofs.Ytbflcnghpkmcoaa
