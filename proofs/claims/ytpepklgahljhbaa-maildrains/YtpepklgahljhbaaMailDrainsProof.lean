/-
  Proved: the law MailDrains returns true for every number and any rows of numbers, of any lengths, shared or not: what is drained, in which order, what is left, and the first box that isn't empty, are as the document says; no condition.
-/
import Derived.Test.YtpepklgahljhbaaRows
import Derived.Test.YtpepklgahljhbaaDrains
import Derived.Deep.Matrix
import Derived.ChangeOld
import Derived.Below
import Derived.WalkKit
import Derived.ProofKit
import Derived.OpenShut
import Derived.ShutString
namespace Go.Proofs.Ytpepklgahljhbaa.mailDrains
open Go.ChangeShapes Go.WideShapes Go.ChangeAt Go.RowKit
open Go.ChangeMaps (open_string shut_string)
set_option linter.unusedVariables false

theorem own : ownKnob Try.prog.godebug = none := by kernel_rfl
theorem laidOut : laidOutB Try.prog = true := by kernel_rfl

/-- Rows that came in, opened. -/
theorem open_rows {H : Type} {enc : TypeId × Value → H} {w : World} {base fuel len cap : Nat} {held : Bool} {a : Option Addr} {x : DataW H × List MemPlace} (h : DataW.trod enc Try.prog w base (fun _ => true) held fuel 46 (Value.slice a len cap).cells.toList = some x) :
    ∃ rl : List (List Int), rl.length ≤ maxLen ∧ RowsR w (.slice a len cap) rl := by
  rcases Go.Deep.open_int_rows Try.underlying46 Try.underlying36 Try.underlying3 (by kernel_rfl) (by kernel_rfl) h with ⟨hcs, _⟩ | ⟨ad, l, c, A, L, C, Z, hcs, _, hl, hm, _, hr⟩
  · simp [Value.cells] at hcs
    obtain ⟨rfl, rfl, rfl⟩ := hcs
    exact ⟨[], by simp, .inl ⟨rfl, _, _, rfl⟩⟩
  · simp [Value.cells] at hcs
    obtain ⟨rfl, rfl, rfl⟩ := hcs
    refine ⟨(List.range len).map fun i => (Z i).take (L i), by simp; omega, ?_⟩
    by_cases len0 : len = 0
    · subst len0
      exact .inl ⟨rfl, _, _, rfl⟩
    · obtain ⟨p, off, spot⟩ := ad
      have hc := (hr 0 (by omega)).1
      have hspot : spot = none := by simpa [Addr.add] using World.cell?_spot hc
      subst hspot
      refine .inr ⟨p, off, cap, (List.range len).map fun i => .slice (A i) (L i) (C i), by simp, by simpa using hl, ⟨by simp, fun j u r hu hj => ?_⟩, fun j u hu => ?_⟩
      · have hjl : j < len := by
          have := (List.getElem?_eq_some_iff.1 hu).1
          simpa using this
        simp [hjl] at hu hj
        subst hu hj
        obtain ⟨q1, q2, q3, q4, q5, q6, q7⟩ := hr j (by omega)
        by_cases hL0 : L j = 0
        · rw [hL0]
          exact .inl ⟨by simp, _, _, rfl⟩
        · cases hA : A j with
          | none => have := q6 hA; exfalso; omega
          | some a' =>
            obtain ⟨_, hcell⟩ := q7 a' hA
            obtain ⟨p', off', spot'⟩ := a'
            have hc' := hcell 0 (by omega)
            have hspot' : spot' = none := by simpa [Addr.add] using World.cell?_spot hc'
            subst hspot'
            have e' : ∀ i, (⟨p', off', none⟩ : Addr).add i = ⟨p', off' + i, none⟩ := fun i => add_lit' _ _ _
            have hlen : ((Z j).take (L j)).length = L j := by rw [List.length_take]; omega
            rw [e'] at hc'
            refine .inr ⟨p', off', C j, by rw [hlen], by rw [hlen]; exact q2, rfl, World.block_lt_of_cell? _ _ hc', fun i u hu => ?_⟩
            rw [List.getElem?_take] at hu
            split at hu
            · have h1 := hcell i (by omega)
              rw [e', List.getD_eq_getElem?_getD, hu] at h1
              exact h1
            · cases hu
      · have hjl : j < len := by
          have := (List.getElem?_eq_some_iff.1 hu).1
          simpa using this
        simp [hjl] at hu
        subst hu
        have h1 := (hr j (by omega)).1
        rw [add_lit'] at h1
        exact h1

/- The step to the row. -/
set_option maxRecDepth 100000 in
theorem lifted (os : Os) (started : os.Started) (H : Type) (enc : TypeId × Value → H) :
    ReturnsInHanded {} Try.checked os 5 .any (Rows.mailDrainsSpec.pre6 enc Try.prog Try.f5 Rows.mailDrainsRow.domain false) (Rows.mailDrainsSpec.post enc Try.prog Try.f5 false true false false) := by
  refine returnsInHanded_of_change (C := Try.checked) own started (by kernel_rfl) Try.func5
    (ChangeSpec.witness6 (enc := enc) (C := Try.checked) false ⟨#[], #[.int .i64 0, .slice none 0 0], []⟩ 8 (by kernel_rfl) (by kernel_rfl) (by kernel_rfl) (by kernel_rfl)) ?_
  intro W base args ds gs before hval0 hW hcnd _
  have hval : ∀ (j : Nat) t v, Try.f5.params[j]? = some t → args[j]? = some v → Value.okWide Try.prog W .any base t v := hval0
  have hW' := hW
  obtain ⟨p, q, hA0, hV, rfl, hfz, hnd⟩ := hW
  have hA : DataW.TrodAll enc Try.prog W 0 (fun _ => true) true Try.f5.params.toList args.toList ds p := hA0
  rw [Try.params5] at hA hval
  obtain ⟨v0, vs0, d0, ds0, p0, q0, hargs, rfl, rfl, h0, r0⟩ := trodAll_cons hA
  obtain ⟨v1, vs1, d1, ds1, p1, q1, rfl, rfl, rfl, h1, r1⟩ := trodAll_cons r0
  obtain ⟨rfl, rfl, rfl⟩ := trodAll_nil r1
  obtain rfl : args = #[v0, v1] := by cases args; simp_all
  obtain ⟨rfl, rfl⟩ := trodVars_none hV
  obtain ⟨n0, rfl, rfl, rfl, w0⟩ := open_int Try.underlying3 (hval 0 3 v0 rfl rfl) h0
  obtain ⟨a1, len1, cap1, rfl⟩ := okWide_slice Try.underlying46 (hval 1 46 v1 rfl rfl)
  have k1 := h1
  have lt1 : ∀ x ∈ p1, x.block < W.heap.size := by obtain ⟨m, hm⟩ := k1; exact DataW.trod_lt m _ _ _ hm
  obtain ⟨rl, hl, hR⟩ : ∃ rl : List (List Int), rl.length ≤ maxLen ∧ RowsR W (.slice a1 len1 cap1) rl := by
    obtain ⟨fuel, hf⟩ := h1
    exact open_rows hf
  clear hA0 hval0
  refine (drains_walk n0 _ rl W hR hl).mono fun e W' ⟨he, bel⟩ => ?_
  subst he
  exact ⟨_, rfl, _, _, _, [], _, [], hW', trodAll_mk1 (shut_bool Try.underlying4 _), (trodAll_cons_mk (shut_int Try.underlying3 w0) (trodAll_cons_mk (Below.trod laidOut (by kernel_rfl) (of_decide_eq_true (by kernel_rfl)) k1 bel lt1) trodAll_mk0)), rfl, bel.frame _, fun h => by cases h⟩

theorem over : Rows.mailDrainsRow.holds Try.pinned (OpenSpec.ofChange Rows.mailDrainsSpec) :=
  OpenClaim.holds_of_wide 5 Try.f5 rfl rfl rfl rfl rfl rfl rfl ⟨rfl, rfl, rfl, rfl, rfl⟩ rfl rfl rfl rfl rfl (by kernel_rfl) Try.func5 (by kernel_rfl)
    (of_decide_eq_true (by kernel_rfl)) (by unfold Func.isWrapper; first | (rw [if_pos (by decide +kernel)]; kernel_rfl) | (rw [if_neg (by decide +kernel)]; exact ⟨rfl, rfl⟩))
    (fun os started H enc _ => lifted os started H enc)

end Go.Proofs.Ytpepklgahljhbaa.mailDrains
namespace Go.Proofs.Ytpepklgahljhbaa
theorem mailDrains_holds : Rows.MailDrainsSaid := mailDrains.over
#print axioms mailDrains_holds
end Go.Proofs.Ytpepklgahljhbaa
