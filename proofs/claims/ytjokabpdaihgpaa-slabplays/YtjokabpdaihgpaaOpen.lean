/-
  OPENING of asks that came in: a list of structs, one field of which is a struct.
-/
import Derived.Test.YtjokabpdaihgpaaAsks
import Derived.Deep.SlicePairs
namespace Go.Proofs.Ytjokabpdaihgpaa
open Go.RowKit Go.ChangeShapes Go.WideShapes Go.Deep

theorem under39 : Try.prog.underlying 39 = some (.slice 45) := by kernel_rfl
theorem under45s : Try.prog.underlying 45 = some (.struct (Try.prog.fieldsOf 45)) := by kernel_rfl
theorem names45 : ((Try.prog.fieldsOf 45).toList.map fun f => (f.type, f.offset)) = [(3, 0), (3, 1), (3, 2), (9, 3), (34, 4), (4, 6)] := by kernel_rfl
theorem under34s : Try.prog.underlying 34 = some (.struct (Try.prog.fieldsOf 34)) := by kernel_rfl
theorem names34 : ((Try.prog.fieldsOf 34).toList.map fun f => (f.type, f.offset)) = [(3, 0), (3, 1)] := by kernel_rfl
theorem fields34 : ∃ f0 f1, Try.prog.underlying 34 = some (.struct #[f0, f1]) ∧ f0.type = 3 ∧ f0.offset = 0 ∧ f1.type = 3 ∧ f1.offset = 1 := by
  have h := names34
  have h2 := under34s
  generalize Try.prog.fieldsOf 34 = F at h h2
  obtain ⟨l⟩ := F
  rcases l with _ | ⟨f0, _ | ⟨f1, _ | ⟨f2, l⟩⟩⟩
  · simp at h
  · simp at h
  · simp at h
    exact ⟨f0, f1, h2, h.1.1, h.1.2, h.2.1, h.2.2⟩
  · simp at h
theorem fields45 : ∃ f0 f1 f2 f3 f4 f5, Try.prog.underlying 45 = some (.struct #[f0, f1, f2, f3, f4, f5]) ∧ f0.type = 3 ∧ f0.offset = 0 ∧ f1.type = 3 ∧ f1.offset = 1 ∧ f2.type = 3 ∧ f2.offset = 2 ∧ f3.type = 9 ∧ f3.offset = 3 ∧ f4.type = 34 ∧ f4.offset = 4 ∧ f5.type = 4 ∧ f5.offset = 6 := by
  have h := names45
  have h2 := under45s
  generalize Try.prog.fieldsOf 45 = F at h h2
  obtain ⟨l⟩ := F
  rcases l with _ | ⟨f0, _ | ⟨f1, _ | ⟨f2, _ | ⟨f3, _ | ⟨f4, _ | ⟨f5, _ | ⟨f6, l⟩⟩⟩⟩⟩⟩⟩
  · simp at h
  · simp at h
  · simp at h
  · simp at h
  · simp at h
  · simp at h
  · simp at h
    exact ⟨f0, f1, f2, f3, f4, f5, h2, h.1.1, h.1.2, h.2.1.1, h.2.1.2, h.2.2.1.1, h.2.2.1.2, h.2.2.2.1.1, h.2.2.2.1.2, h.2.2.2.2.1.1, h.2.2.2.2.1.2, h.2.2.2.2.2.1, h.2.2.2.2.2.2⟩
  · simp at h
theorem open_asks {H : Type} {enc : TypeId × Value → H} {W : World} {base fuel : Nat} {spare : Nat → Bool} {held : Bool} {a : Option Addr} {len cap : Nat} {x : DataW H × List MemPlace}
    (h : DataW.trod enc Try.prog W base spare held fuel 39 (Value.slice a len cap).cells.toList = some x) : ∃ q, AskF W a q len ∧ len ≤ 9223372036854775807 := by
  obtain ⟨f0, f1, f2, f3, f4, f5, he, t0, o0, t1, o1, t2, o2, t3, o3, t4, o4, t5, o5⟩ := fields45
  obtain ⟨k0, k1, he2, u0, v0, u1, v1⟩ := fields34
  have ce : Try.prog.cellsOf 45 = 7 := by kernel_rfl
  rcases open_slice under39 h with ⟨hcs, _⟩ | ⟨ad, l, c, m, n, D, Pl, hcs, hb, hl, hm, hmm, rfl, hx⟩
  · simp [Value.cells] at hcs
    obtain ⟨rfl, rfl, rfl⟩ := hcs
    exact ⟨fun _ => ⟨0, 0, 0, ⟨#[]⟩, 0, 0, false⟩, Or.inl rfl, by omega⟩
  · simp [Value.cells] at hcs
    obtain ⟨rfl, rfl, rfl⟩ := hcs
    have hlm : len ≤ m := by rw [hmm]; split <;> omega
    have hmax : len ≤ 9223372036854775807 := by unfold maxLen at hm; omega
    have each : ∀ i, i < len → ∃ q : AskD, W.cell? (ad.add (i * 7)) = some (.int .i64 q.K) ∧ W.cell? (ad.add (i * 7 + 1)) = some (.int .i64 q.N) ∧ W.cell? (ad.add (i * 7 + 2)) = some (.int .i64 q.Z) ∧ W.cell? (ad.add (i * 7 + 3)) = some (.string q.D) ∧ W.cell? (ad.add (i * 7 + 4)) = some (.int .i64 q.C) ∧ W.cell? (ad.add (i * 7 + 5)) = some (.int .i64 q.H) ∧ W.cell? (ad.add (i * 7 + 6)) = some (.bool q.T) := fun i hi => by
      obtain ⟨cs', h1, h2⟩ := hx i (by omega)
      rw [ce] at h1
      obtain ⟨_, hlen, hcell⟩ := World.cells?_some h1
      obtain ⟨xs, k, hk, hxy, _, hxl, hf⟩ := DataW.trod_struct he h2
      rcases cs' with _ | ⟨c0, _ | ⟨c1, _ | ⟨c2, _ | ⟨c3, _ | ⟨c4, _ | ⟨c5, _ | ⟨c6, _ | ⟨c7, cs'⟩⟩⟩⟩⟩⟩⟩⟩ <;> simp at hlen
      rcases xs with _ | ⟨y0, _ | ⟨y1, _ | ⟨y2, _ | ⟨y3, _ | ⟨y4, _ | ⟨y5, _ | ⟨y6, xs⟩⟩⟩⟩⟩⟩⟩ <;> simp at hxl
      have g0 := hf 0 f0 rfl
      have g1 := hf 1 f1 rfl
      have g2 := hf 2 f2 rfl
      have g3 := hf 3 f3 rfl
      have g4 := hf 4 f4 rfl
      have g5 := hf 5 f5 rfl
      rw [t0, o0, show Try.prog.cellsOf 3 = 1 by kernel_rfl] at g0
      rw [t1, o1, show Try.prog.cellsOf 3 = 1 by kernel_rfl] at g1
      rw [t2, o2, show Try.prog.cellsOf 3 = 1 by kernel_rfl] at g2
      rw [t3, o3, show Try.prog.cellsOf 9 = 1 by kernel_rfl] at g3
      rw [t4, o4, show Try.prog.cellsOf 34 = 2 by kernel_rfl] at g4
      rw [t5, o5, show Try.prog.cellsOf 4 = 1 by kernel_rfl] at g5
      simp at g0 g1 g2 g3 g4 g5
      have e0 := hcell 0 (by simp)
      have e1 := hcell 1 (by simp)
      have e2 := hcell 2 (by simp)
      have e3 := hcell 3 (by simp)
      have e4 := hcell 4 (by simp)
      have e5 := hcell 5 (by simp)
      have e6 := hcell 6 (by simp)
      rw [add_add] at e0 e1 e2 e3 e4 e5 e6
      obtain ⟨z0, q0, _⟩ := DataW.trod_int Try.underlying3 g0
      obtain ⟨z1, q1, _⟩ := DataW.trod_int Try.underlying3 g1
      obtain ⟨z2, q2, _⟩ := DataW.trod_int Try.underlying3 g2
      obtain ⟨s3, q3, _⟩ := DataW.trod_string Try.underlying9 g3
      obtain ⟨xs4, k4, hk4, hxy4, _, hxl4, hf4⟩ := DataW.trod_struct he2 g4
      rcases xs4 with _ | ⟨r0, _ | ⟨r1, _ | ⟨r2, xs4⟩⟩⟩ <;> simp at hxl4
      have b0 := hf4 0 k0 rfl
      have b1 := hf4 1 k1 rfl
      rw [u0, v0, show Try.prog.cellsOf 3 = 1 by kernel_rfl] at b0
      rw [u1, v1, show Try.prog.cellsOf 3 = 1 by kernel_rfl] at b1
      simp at b0 b1
      obtain ⟨z4, q4, _⟩ := DataW.trod_int Try.underlying3 b0
      obtain ⟨z5, q5, _⟩ := DataW.trod_int Try.underlying3 b1
      obtain ⟨t6, q6, _⟩ := DataW.trod_bool Try.underlying4 g5
      injection q0 with q0
      injection q1 with q1
      injection q2 with q2
      injection q3 with q3
      injection q4 with q4
      injection q5 with q5
      injection q6 with q6
      exact ⟨⟨z0, z1, z2, s3, z4, z5, t6⟩, by simpa [q0] using e0, by simpa [q1] using e1, by simpa [q2] using e2, by simpa [q3] using e3, by simpa [q4] using e4, by simpa [q5] using e5, by simpa [q6] using e6⟩
    have inh : Inhabited AskD := ⟨⟨0, 0, 0, ⟨#[]⟩, 0, 0, false⟩⟩
    obtain ⟨q, hq⟩ := Go.Deep.choose_lt each
    refine ⟨q, ?_, hmax⟩
    by_cases n0 : len = 0
    · exact Or.inl n0
    · obtain ⟨p, off, spot⟩ := ad
      have hspot : spot = none := by simpa [Addr.add] using World.cell?_spot (hq 0 (by omega)).1
      subst hspot
      refine Or.inr ⟨p, off, rfl, fun i hi => ?_⟩
      have h1 := hq i hi
      have e : ∀ j, (⟨p, off, none⟩ : Addr).add j = ⟨p, off + j, none⟩ := fun j => by unfold Addr.add; split <;> simp_all
      rw [e, e, e, e, e, e, e, ← Nat.add_assoc, ← Nat.add_assoc, ← Nat.add_assoc, ← Nat.add_assoc, ← Nat.add_assoc, ← Nat.add_assoc] at h1
      exact h1
end Go.Proofs.Ytjokabpdaihgpaa
