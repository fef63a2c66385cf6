/-
  OPENING of what came in: a list of numbers.
-/
import Derived.Test.YthoambgkcoeffaaFw
import Derived.Deep.SlicePairs
import Derived.ChangeArms
namespace Go.Proofs.Ythoambgkcoeffaa
open Go.RowKit Go.ChangeShapes Go.WideShapes Go.Deep

theorem open_nums {H : Type} {enc : TypeId × Value → H} {W : World} {base fuel : Nat} {spare : Nat → Bool} {held : Bool} {a : Option Addr} {len cap : Nat} {x : DataW H × List MemPlace}
    (h : DataW.trod enc Try.prog W base spare held fuel 31 (Value.slice a len cap).cells.toList = some x) : ∃ z, IntsF W a z len ∧ len ≤ 9223372036854775807 := by
  have ce : Try.prog.cellsOf 3 = 1 := by kernel_rfl
  rcases Go.Deep.open_slice under31 h with ⟨hcs, _⟩ | ⟨ad, l, c, m, n, D, Pl, hcs, hb, hl, hm, hmm, rfl, hx⟩
  · simp [Value.cells] at hcs
    obtain ⟨rfl, rfl, rfl⟩ := hcs
    exact ⟨fun _ => 0, Or.inl rfl, by omega⟩
  · simp [Value.cells] at hcs
    obtain ⟨rfl, rfl, rfl⟩ := hcs
    have hlm : len ≤ m := by rw [hmm]; split <;> omega
    have hmax : len ≤ 9223372036854775807 := by unfold maxLen at hm; omega
    have each : ∀ i, i < len → ∃ q : Int, W.cell? (ad.add i) = some (.int .i64 q) := fun i hi => by
      obtain ⟨cs', h1, h2⟩ := hx i (by omega)
      rw [ce] at h1
      obtain ⟨_, hlen, hcell⟩ := World.cells?_some h1
      obtain ⟨s2, q2, _⟩ := DataW.trod_int Try.underlying3 h2
      subst q2
      have e0 := hcell 0 (by simp)
      rw [Go.Deep.add_add] at e0
      exact ⟨s2, by simpa using e0⟩
    obtain ⟨q, hq⟩ := Go.Deep.choose_lt each
    refine ⟨q, ?_, hmax⟩
    by_cases n0 : len = 0
    · exact Or.inl n0
    · obtain ⟨p, off, spot⟩ := ad
      have hspot : spot = none := by simpa [Addr.add] using World.cell?_spot (hq 0 (by omega))
      subst hspot
      refine Or.inr ⟨p, off, rfl, fun i hi => ?_⟩
      have h1 := hq i hi
      have e : ∀ j, (⟨p, off, none⟩ : Addr).add j = ⟨p, off + j, none⟩ := fun j => by unfold Addr.add; split <;> simp_all
      rw [e] at h1
      exact h1
end Go.Proofs.Ythoambgkcoeffaa
