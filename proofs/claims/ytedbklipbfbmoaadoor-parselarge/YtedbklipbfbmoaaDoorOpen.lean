/-
  SLICES THAT CAME IN, opened: texts, numbers.
-/
import Derived.Test.YtedbklipbfbmoaaDoorGets
import Derived.ProofKit
import Derived.OpenShut
import Derived.Deep.SlicePairs
namespace Go.Proofs.YtedbklipbfbmoaaDoor
open Go.ChangeShapes Go.WideShapes Go.ChangeAt Go.RowKit

theorem laidOut : laidOutB Tryd.prog = true := by kernel_rfl
theorem under47 : Tryd.prog.underlying 47 = some (.slice 3) := by kernel_rfl
theorem open_strs {H : Type} {enc : TypeId × Value → H} {W : World} {base fuel : Nat} {spare : Nat → Bool} {held : Bool} {a : Option Addr} {len cap : Nat} {x : DataW H × List MemPlace}
    (h : DataW.trod enc Tryd.prog W base spare held fuel 27 (Value.slice a len cap).cells.toList = some x) : ∃ T, StrF W a T len ∧ len ≤ 9223372036854775807 := by
  have ce : Tryd.prog.cellsOf 9 = 1 := by kernel_rfl
  rcases Go.Deep.open_slice under27 h with ⟨hcs, _⟩ | ⟨ad, l, c, m, n, D, Pl, hcs, hb, hl, hm, hmm, rfl, hx⟩
  · simp [Value.cells] at hcs
    obtain ⟨rfl, rfl, rfl⟩ := hcs
    exact ⟨fun _ => ⟨#[]⟩, Or.inl rfl, by omega⟩
  · simp [Value.cells] at hcs
    obtain ⟨rfl, rfl, rfl⟩ := hcs
    have hlm : len ≤ m := by rw [hmm]; split <;> omega
    have hmax : len ≤ 9223372036854775807 := by unfold maxLen at hm; omega
    have each : ∀ i, i < len → ∃ q : ByteArray, W.cell? (ad.add i) = some (.string q) := fun i hi => by
      obtain ⟨cs', h1, h2⟩ := hx i (by omega)
      rw [ce] at h1
      obtain ⟨_, hlen, hcell⟩ := World.cells?_some h1
      obtain ⟨s2, q2, _⟩ := DataW.trod_string Tryd.underlying9 h2
      subst q2
      have e0 := hcell 0 (by simp)
      rw [Go.Deep.add_add] at e0
      exact ⟨s2, by simpa using e0⟩
    obtain ⟨q, hq⟩ := Go.Deep.choose_lt each
    refine ⟨q, ?_, hmax⟩
    by_cases n0 : len = 0
    · exact Or.inl n0
    · obtain ⟨p, off, spot⟩ := ad
      have hspot : spot = none := by simpa [Addr.add] using World.cell?_spot (hq 0 (by omega))
      subst hspot
      refine Or.inr ⟨p, off, rfl, fun i hi => ?_⟩
      have h1 := hq i hi
      have e : ∀ j, (⟨p, off, none⟩ : Addr).add j = ⟨p, off + j, none⟩ := fun j => by unfold Addr.add; split <;> simp_all
      rw [e] at h1
      exact h1
/-- Numbers that came in. -/
def IntsF (w : World) (a : Option Addr) (z : Nat → Int) (len : Nat) : Prop := len = 0 ∨ ∃ p off, a = some ⟨p, off, none⟩ ∧ ∀ i, i < len → w.cell? ⟨p, off + i, none⟩ = some (.int .i64 (z i))
theorem IntsF.below {w w' : World} {a : Option Addr} {z : Nat → Int} {len : Nat} (h : IntsF w a z len) (b : Below w.heap.size w w') : IntsF w' a z len := by
  rcases h with h | ⟨p, off, h1, h2⟩
  · exact .inl h
  · exact .inr ⟨p, off, h1, fun i hi => cell_up b (h2 i hi)⟩
theorem open_nums {H : Type} {enc : TypeId × Value → H} {W : World} {base fuel : Nat} {spare : Nat → Bool} {held : Bool} {a : Option Addr} {len cap : Nat} {x : DataW H × List MemPlace}
    (h : DataW.trod enc Tryd.prog W base spare held fuel 47 (Value.slice a len cap).cells.toList = some x) : ∃ z, IntsF W a z len ∧ len ≤ 9223372036854775807 := by
  have ce : Tryd.prog.cellsOf 3 = 1 := by kernel_rfl
  rcases Go.Deep.open_slice under47 h with ⟨hcs, _⟩ | ⟨ad, l, c, m, n, D, Pl, hcs, hb, hl, hm, hmm, rfl, hx⟩
  · simp [Value.cells] at hcs
    obtain ⟨rfl, rfl, rfl⟩ := hcs
    exact ⟨fun _ => 0, Or.inl rfl, by omega⟩
  · simp [Value.cells] at hcs
    obtain ⟨rfl, rfl, rfl⟩ := hcs
    have hlm : len ≤ m := by rw [hmm]; split <;> omega
    have hmax : len ≤ 9223372036854775807 := by unfold maxLen at hm; omega
    have each : ∀ i, i < len → ∃ q : Int, W.cell? (ad.add i) = some (.int .i64 q) := fun i hi => by
      obtain ⟨cs', h1, h2⟩ := hx i (by omega)
      rw [ce] at h1
      obtain ⟨_, hlen, hcell⟩ := World.cells?_some h1
      obtain ⟨s2, q2, _⟩ := DataW.trod_int Tryd.underlying3 h2
      subst q2
      have e0 := hcell 0 (by simp)
      rw [Go.Deep.add_add] at e0
      exact ⟨s2, by simpa using e0⟩
    obtain ⟨q, hq⟩ := Go.Deep.choose_lt each
    refine ⟨q, ?_, hmax⟩
    by_cases n0 : len = 0
    · exact Or.inl n0
    · obtain ⟨p, off, spot⟩ := ad
      have hspot : spot = none := by simpa [Addr.add] using World.cell?_spot (hq 0 (by omega))
      subst hspot
      refine Or.inr ⟨p, off, rfl, fun i hi => ?_⟩
      have h1 := hq i hi
      have e : ∀ j, (⟨p, off, none⟩ : Addr).add j = ⟨p, off + j, none⟩ := fun j => by unfold Addr.add; split <;> simp_all
      rw [e] at h1
      exact h1
end Go.Proofs.YtedbklipbfbmoaaDoor
