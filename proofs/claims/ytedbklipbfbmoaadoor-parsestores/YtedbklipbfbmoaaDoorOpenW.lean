/-
  OPENING of texts that came in, with their sizes.
-/
import Derived.Test.YtedbklipbfbmoaaDoorOpen
import Derived.SizedLaws
namespace Go.Proofs.YtedbklipbfbmoaaDoor
open Go.RowKit Go.ChangeShapes Go.WideShapes

theorem mem_weightsAll {H : Type} {P : Program} {e : TypeId} : ∀ {l : List (DataW H)} {d : DataW H} {n : Nat}, d ∈ l → n ∈ d.weights P e → n ∈ DataW.weightsAll P e l
  | x :: l, d, n, hd, hn => by
    rw [DataW.weightsAll]
    rcases List.mem_cons.1 hd with rfl | hd
    · exact List.mem_append_left _ hn
    · exact List.mem_append_right _ (mem_weightsAll hd hn)
theorem open_strs_w {H : Type} {enc : TypeId × Value → H} {W : World} {base fuel : Nat} {spare : Nat → Bool} {held : Bool} {a : Option Addr} {len cap : Nat} {x : DataW H × List MemPlace}
    (h : DataW.trod enc Tryd.prog W base spare held fuel 27 (Value.slice a len cap).cells.toList = some x) : ∃ T, StrF W a T len ∧ len ≤ 9223372036854775807 ∧ ∀ i, i < len → (T i).size ∈ x.1.weights Tryd.prog 27 := by
  have ce : Tryd.prog.cellsOf 9 = 1 := by kernel_rfl
  rcases Go.Deep.open_slice under27 h with ⟨hcs, _⟩ | ⟨ad, l, c, m, n, D, Pl, hcs, hb, hl, hm, hmm, rfl, hx⟩
  · simp [Value.cells] at hcs
    obtain ⟨rfl, rfl, rfl⟩ := hcs
    exact ⟨fun _ => ⟨#[]⟩, Or.inl rfl, by omega, fun i hi => by omega⟩
  · simp [Value.cells] at hcs
    obtain ⟨rfl, rfl, rfl⟩ := hcs
    have hlm : len ≤ m := by rw [hmm]; split <;> omega
    have hmax : len ≤ 9223372036854775807 := by unfold maxLen at hm; omega
    have each : ∀ i, i < len → ∃ q : ByteArray, W.cell? (ad.add i) = some (.string q) ∧ D i = .lit (.string q.data.toList) := fun i hi => by
      obtain ⟨cs', h1, h2⟩ := hx i (by omega)
      rw [ce] at h1
      obtain ⟨_, hlen, hcell⟩ := World.cells?_some h1
      obtain ⟨s2, q2, v2, _⟩ := DataW.trod_string Tryd.underlying9 h2
      subst q2
      have e0 := hcell 0 (by simp)
      rw [Go.Deep.add_add] at e0
      exact ⟨s2, by simpa using e0, (Prod.mk.inj v2).1⟩
    obtain ⟨q, hq⟩ := Go.Deep.choose_lt each
    refine ⟨q, ?_, hmax, fun i hi => ?_⟩
    · by_cases n0 : len = 0
      · exact Or.inl n0
      · obtain ⟨p, off, spot⟩ := ad
        have hspot : spot = none := by simpa [Addr.add] using World.cell?_spot (hq 0 (by omega)).1
        subst hspot
        refine Or.inr ⟨p, off, rfl, fun i hi => ?_⟩
        have h1 := (hq i hi).1
        have e : ∀ j, (⟨p, off, none⟩ : Addr).add j = ⟨p, off + j, none⟩ := fun j => by unfold Addr.add; split <;> simp_all
        rw [e] at h1
        exact h1
    · simp only [DataW.weights, under27]
      refine List.mem_cons_of_mem _ (List.mem_append_left _ (mem_weightsAll (d := D i) (List.mem_map.2 ⟨i, List.mem_range.2 hi, rfl⟩) ?_))
      rw [(hq i hi).2]
      simp only [DataW.weights, List.mem_singleton]
      rfl
end Go.Proofs.YtedbklipbfbmoaaDoor
