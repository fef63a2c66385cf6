/-
  OPENING of things to write that came in: a list of structs of three cells.
-/
import Derived.Test.YtihghccjcicbeaaItems
import Derived.Deep.SlicePairs
namespace Go.Proofs.Ytihghccjcicbeaa
open Go.RowKit Go.ChangeShapes Go.WideShapes Go.Deep

theorem under29 : Try.prog.underlying 29 = some (.slice 32) := by kernel_rfl
theorem under32s : Try.prog.underlying 32 = some (.struct (Try.prog.fieldsOf 32)) := by kernel_rfl
theorem names32 : ((Try.prog.fieldsOf 32).toList.map fun f => (f.type, f.offset)) = [(3, 0), (3, 1), (9, 2)] := by kernel_rfl
theorem fields32 : ∃ f0 f1 f2, Try.prog.underlying 32 = some (.struct #[f0, f1, f2]) ∧ f0.type = 3 ∧ f0.offset = 0 ∧ f1.type = 3 ∧ f1.offset = 1 ∧ f2.type = 9 ∧ f2.offset = 2 := by
  have h := names32
  have h2 := under32s
  generalize Try.prog.fieldsOf 32 = F at h h2
  obtain ⟨l⟩ := F
  rcases l with _ | ⟨f0, _ | ⟨f1, _ | ⟨f2, _ | ⟨f3, l⟩⟩⟩⟩
  · simp at h
  · simp at h
  · simp at h
  · simp at h
    exact ⟨f0, f1, f2, h2, h.1.1, h.1.2, h.2.1.1, h.2.1.2, h.2.2.1, h.2.2.2⟩
  · simp at h
theorem open_items {H : Type} {enc : TypeId × Value → H} {W : World} {base fuel : Nat} {spare : Nat → Bool} {held : Bool} {a : Option Addr} {len cap : Nat} {x : DataW H × List MemPlace}
    (h : DataW.trod enc Try.prog W base spare held fuel 29 (Value.slice a len cap).cells.toList = some x) : ∃ K N S, ItemF W a K N S len ∧ (∀ i, i < len → -9223372036854775808 ≤ N i ∧ N i ≤ 9223372036854775807) ∧ len ≤ 9223372036854775807 := by
  obtain ⟨f0, f1, f2, he, t0, o0, t1, o1, t2, o2⟩ := fields32
  have ce : Try.prog.cellsOf 32 = 3 := by kernel_rfl
  rcases open_slice under29 h with ⟨hcs, _⟩ | ⟨ad, l, c, m, n, D, Pl, hcs, hb, hl, hm, hmm, rfl, hx⟩
  · simp [Value.cells] at hcs
    obtain ⟨rfl, rfl, rfl⟩ := hcs
    exact ⟨fun _ => 0, fun _ => 0, fun _ => ⟨#[]⟩, Or.inl rfl, fun i hi => by omega, by omega⟩
  · simp [Value.cells] at hcs
    obtain ⟨rfl, rfl, rfl⟩ := hcs
    have hlm : len ≤ m := by rw [hmm]; split <;> omega
    have hmax : len ≤ 9223372036854775807 := by unfold maxLen at hm; omega
    have each : ∀ i, i < len → ∃ q : Int × Int × ByteArray, W.cell? (ad.add (i * 3)) = some (.int .i64 q.1) ∧ W.cell? (ad.add (i * 3 + 1)) = some (.int .i64 q.2.1) ∧ W.cell? (ad.add (i * 3 + 2)) = some (.string q.2.2) ∧ -9223372036854775808 ≤ q.2.1 ∧ q.2.1 ≤ 9223372036854775807 := fun i hi => by
      obtain ⟨cs', h1, h2⟩ := hx i (by omega)
      rw [ce] at h1
      obtain ⟨_, hlen, hcell⟩ := World.cells?_some h1
      obtain ⟨xs, k, hk, hxy, _, hxl, hf⟩ := DataW.trod_struct he h2
      match xs, hxl, cs', hlen with
      | [y0, y1, y2], _, [v0, v1, v2], _ =>
        have g0 := hf 0 f0 rfl
        have g1 := hf 1 f1 rfl
        have g2 := hf 2 f2 rfl
        rw [t0, o0, show Try.prog.cellsOf 3 = 1 by kernel_rfl] at g0
        rw [t1, o1, show Try.prog.cellsOf 3 = 1 by kernel_rfl] at g1
        rw [t2, o2, show Try.prog.cellsOf 9 = 1 by kernel_rfl] at g2
        simp at g0 g1 g2
        have e0 := hcell 0 (by omega)
        have e1 := hcell 1 (by omega)
        have e2 := hcell 2 (by omega)
        rw [add_add] at e0 e1 e2
        obtain ⟨z0, q0, _⟩ := DataW.trod_int Try.underlying3 g0
        obtain ⟨z1, q1, _, w1⟩ := DataW.trod_int Try.underlying3 g1
        obtain ⟨s2, q2, _⟩ := DataW.trod_string Try.underlying9 g2
        injection q0 with q0
        injection q1 with q1
        injection q2 with q2
        have b1 := bounds_i64 w1
        exact ⟨(z0, z1, s2), by simpa [q0] using e0, by simpa [q1] using e1, by simpa [q2] using e2, b1.1, b1.2⟩
    obtain ⟨q, hq⟩ := Go.Deep.choose_lt each
    refine ⟨fun i => (q i).1, fun i => (q i).2.1, fun i => (q i).2.2, ?_, fun i hi => (hq i hi).2.2.2, hmax⟩
    by_cases n0 : len = 0
    · exact Or.inl n0
    · obtain ⟨p, off, spot⟩ := ad
      have hspot : spot = none := by simpa [Addr.add] using World.cell?_spot (hq 0 (by omega)).1
      subst hspot
      refine Or.inr ⟨p, off, rfl, fun i hi => ?_⟩
      have h1 := hq i hi
      have e : ∀ j, (⟨p, off, none⟩ : Addr).add j = ⟨p, off + j, none⟩ := fun j => by unfold Addr.add; split <;> simp_all
      rw [e, e, e, ← Nat.add_assoc, ← Nat.add_assoc] at h1
      exact ⟨h1.1, h1.2.1, h1.2.2.1⟩
end Go.Proofs.Ytihghccjcicbeaa
