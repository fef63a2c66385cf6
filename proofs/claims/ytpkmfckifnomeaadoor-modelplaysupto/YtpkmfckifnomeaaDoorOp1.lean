/-
  OPENING of what came in: lists of one cell each.
-/
import Derived.Test.YtpkmfckifnomeaaDoorSf
import Derived.Deep.SlicePairs
import Derived.OpenShut
import Derived.ChangeOld
namespace Go.Proofs.YtpkmfckifnomeaaDoor
open Go.RowKit Go.ChangeShapes Go.WideShapes


theorem laidOut : laidOutB Tryd.prog = true := by kernel_rfl
theorem under24 : Tryd.prog.underlying 24 = some (.slice 9) := by kernel_rfl
theorem under59 : Tryd.prog.underlying 59 = some (.slice 4) := by kernel_rfl
theorem under58 : Tryd.prog.underlying 58 = some (.slice 25) := by kernel_rfl
theorem wf_i64 {n : Int} (h : (Lit.int .i64 n).wf = true) : -9223372036854775808 ≤ n ∧ n ≤ 9223372036854775807 := by
  have h3 : IntKind.i64.min ≤ n ∧ n ≤ IntKind.i64.max := by simpa [Lit.wf] using h
  have m1 : IntKind.i64.min = -9223372036854775808 := by decide
  have m2 : IntKind.i64.max = 9223372036854775807 := by decide
  omega
theorem wf_u64 {n : Int} (h : (Lit.int .u64 n).wf = true) : 0 ≤ n ∧ n < 18446744073709551616 := by
  have h3 : IntKind.u64.min ≤ n ∧ n ≤ IntKind.u64.max := by simpa [Lit.wf] using h
  have m1 : IntKind.u64.min = 0 := by decide
  have m2 : IntKind.u64.max = 18446744073709551615 := by decide
  omega
theorem open_cells {H : Type} {enc : TypeId × Value → H} {W : World} {base fuel : Nat} {spare : Nat → Bool} {held : Bool} {a : Option Addr} {len cap : Nat} {x : DataW H × List MemPlace} {T e : TypeId} (hT : Tryd.prog.underlying T = some (.slice e)) (ce : Tryd.prog.cellsOf e = 1) (p : Value → Prop)
    (he : ∀ (sp : Nat → Bool) (fu : Nat) (cs : List Value) (y : DataW H × List MemPlace), DataW.trod enc Tryd.prog W base sp held fu e cs = some y → ∃ v, cs = [v] ∧ p v)
    (h : DataW.trod enc Tryd.prog W base spare held fuel T (Value.slice a len cap).cells.toList = some x) : ∃ f, CellF W a f len ∧ len ≤ 9223372036854775807 ∧ ∀ i, i < len → p (f i) := by
  rcases Go.Deep.open_slice hT h with ⟨hcs, _⟩ | ⟨ad, l, c, m, n, D, Pl, hcs, hb, hl, hm, hmm, rfl, hx⟩
  · simp [Value.cells] at hcs
    obtain ⟨rfl, rfl, rfl⟩ := hcs
    exact ⟨fun _ => .int .i64 0, Or.inl rfl, by omega, fun i hi => by omega⟩
  · simp [Value.cells] at hcs
    obtain ⟨rfl, rfl, rfl⟩ := hcs
    have hlm : len ≤ m := by rw [hmm]; split <;> omega
    have hmax : len ≤ 9223372036854775807 := by unfold maxLen at hm; omega
    have inh : Inhabited Value := ⟨.int .i64 0⟩
    have each : ∀ i, i < len → ∃ q : Value, W.cell? (ad.add i) = some q ∧ p q := fun i hi => by
      obtain ⟨cs', h1, h2⟩ := hx i (by omega)
      rw [ce] at h1
      obtain ⟨_, hlen, hcell⟩ := World.cells?_some h1
      obtain ⟨v, rfl, hv⟩ := he _ _ _ _ h2
      have e0 := hcell 0 (by simp)
      rw [Go.Deep.add_add] at e0
      exact ⟨v, by simpa using e0, hv⟩
    obtain ⟨q, hq⟩ := Go.Deep.choose_lt each
    refine ⟨q, ?_, hmax, fun i hi => (hq i hi).2⟩
    by_cases n0 : len = 0
    · exact Or.inl n0
    · obtain ⟨p', off, spot⟩ := ad
      have hspot : spot = none := by simpa [Addr.add] using World.cell?_spot (hq 0 (by omega)).1
      subst hspot
      refine Or.inr ⟨p', off, rfl, fun i hi => ?_⟩
      have h1 := (hq i hi).1
      have e : ∀ j, (⟨p', off, none⟩ : Addr).add j = ⟨p', off + j, none⟩ := fun j => by unfold Addr.add; split <;> simp_all
      rw [e] at h1
      exact h1
theorem CellF.congr {W : World} {a : Option Addr} {f g : Nat → Value} {len : Nat} (h : CellF W a f len) (e : ∀ i, i < len → f i = g i) : CellF W a g len := by
  rcases h with h | ⟨p, off, h1, h2⟩
  · exact .inl h
  · exact .inr ⟨p, off, h1, fun i hi => by rw [h2 i hi, e i hi]⟩
theorem open_strs {H : Type} {enc : TypeId × Value → H} {W : World} {base fuel : Nat} {spare : Nat → Bool} {held : Bool} {a : Option Addr} {len cap : Nat} {x : DataW H × List MemPlace}
    (h : DataW.trod enc Tryd.prog W base spare held fuel 24 (Value.slice a len cap).cells.toList = some x) : ∃ T : Nat → ByteArray, CellF W a (fun i => .string (T i)) len ∧ len ≤ 9223372036854775807 := by
  obtain ⟨f, h1, h2, h3⟩ := open_cells under24 (by kernel_rfl) (fun v => ∃ s, v = .string s) (fun sp fu cs y hy => by
    obtain ⟨s, q, _⟩ := DataW.trod_string Tryd.underlying9 hy
    exact ⟨_, q, s, rfl⟩) h
  have inh : Inhabited ByteArray := ⟨⟨#[]⟩⟩
  obtain ⟨T, hT⟩ := Go.Deep.choose_lt (α := ByteArray) (n := len) (p := fun i s => f i = .string s) (fun i hi => h3 i hi)
  exact ⟨T, h1.congr hT, h2⟩
theorem open_bools {H : Type} {enc : TypeId × Value → H} {W : World} {base fuel : Nat} {spare : Nat → Bool} {held : Bool} {a : Option Addr} {len cap : Nat} {x : DataW H × List MemPlace}
    (h : DataW.trod enc Tryd.prog W base spare held fuel 59 (Value.slice a len cap).cells.toList = some x) : ∃ T : Nat → Bool, CellF W a (fun i => .bool (T i)) len ∧ len ≤ 9223372036854775807 := by
  obtain ⟨f, h1, h2, h3⟩ := open_cells under59 (by kernel_rfl) (fun v => ∃ s, v = .bool s) (fun sp fu cs y hy => by
    obtain ⟨s, q, _⟩ := DataW.trod_bool Tryd.underlying4 hy
    exact ⟨_, q, s, rfl⟩) h
  have inh : Inhabited Bool := ⟨false⟩
  obtain ⟨T, hT⟩ := Go.Deep.choose_lt (α := Bool) (n := len) (p := fun i s => f i = .bool s) (fun i hi => h3 i hi)
  exact ⟨T, h1.congr hT, h2⟩
theorem open_u64s {H : Type} {enc : TypeId × Value → H} {W : World} {base fuel : Nat} {spare : Nat → Bool} {held : Bool} {a : Option Addr} {len cap : Nat} {x : DataW H × List MemPlace}
    (h : DataW.trod enc Tryd.prog W base spare held fuel 58 (Value.slice a len cap).cells.toList = some x) : ∃ T : Nat → Nat, CellF W a (fun i => .int .u64 ((T i : Nat) : Int)) len ∧ len ≤ 9223372036854775807 ∧ ∀ i, i < len → T i < 18446744073709551616 := by
  obtain ⟨f, h1, h2, h3⟩ := open_cells under58 (by kernel_rfl) (fun v => ∃ s : Nat, v = .int .u64 (s : Int) ∧ s < 18446744073709551616) (fun sp fu cs y hy => by
    obtain ⟨s, q, _, hw⟩ := DataW.trod_int Tryd.underlying25 hy
    obtain ⟨b1, b2⟩ := wf_u64 hw
    exact ⟨_, q, s.toNat, by congr 1; omega, by omega⟩) h
  have inh : Inhabited Nat := ⟨0⟩
  obtain ⟨T, hT⟩ := Go.Deep.choose_lt (α := Nat) (n := len) (p := fun i s => f i = .int .u64 (s : Int) ∧ s < 18446744073709551616) (fun i hi => h3 i hi)
  exact ⟨T, h1.congr (fun i hi => (hT i hi).1), h2, fun i hi => (hT i hi).2⟩
end Go.Proofs.YtpkmfckifnomeaaDoor
