/-
  Proved: the law MatrixTells (any rows: are they a matrix, their product, their inverse; they stay; any Identity and Cauchy: the program answers as the reference does) returns true for any two lists of rows of any lengths, shared or not, and any two numbers, in every start that the row allows.
-/
import Derived.Test.YtdinhkcdllmmkaaRows
import Derived.Test.YtdinhkcdllmmkaaMTells
import Derived.Deep.Matrix
import Derived.ChangeOld
import Derived.Below
import Derived.WalkKit
import Derived.ProofKit
import Derived.OpenShut
import Derived.ShutString
namespace Go.Proofs.Ytdinhkcdllmmkaa.matrixTells
open Go.ChangeShapes Go.WideShapes Go.ChangeAt Go.RowKit
open Go.ChangeMaps (open_string shut_string)
set_option linter.unusedVariables false

theorem own : ownKnob Try.prog.godebug = none := by kernel_rfl
theorem laidOut : laidOutB Try.prog = true := by kernel_rfl

/-- Two lists of rows that came in, opened: rows of whatever lengths. -/
theorem open_mat {H : Type} {enc : TypeId × Value → H} {w : World} {base fuel len cap : Nat} {held : Bool} {a : Option Addr} {x : DataW H × List MemPlace} (h : DataW.trod enc Try.prog w base (fun _ => true) held fuel 27 (Value.slice a len cap).cells.toList = some x) :
    ∃ (A : Nat → Nat → Nat) (L : Nat → Nat), Gf.B8 A ∧ (∀ i, i < len → L i ≤ maxLen) ∧ len ≤ maxLen ∧ MatL w a A L len := by
  rcases Go.Deep.open_int_rows Try.underlying27 Try.underlying31 Try.underlying5 (by kernel_rfl) (by kernel_rfl) h with ⟨hcs, _⟩ | ⟨ad, l, c, A', L, C, Z, hcs, _, hl, hm, _, hr⟩
  · simp [Value.cells] at hcs
    obtain ⟨rfl, rfl, rfl⟩ := hcs
    exact ⟨fun _ _ => 0, fun _ => 0, fun _ _ => by show 0 < 256; decide, fun i hi => by omega, by unfold maxLen; omega, Or.inl rfl⟩
  · simp [Value.cells] at hcs
    obtain ⟨rfl, rfl, rfl⟩ := hcs
    have bd : ∀ r, r < cap → ∀ j, 0 ≤ (Z r).getD j 0 ∧ (Z r).getD j 0 ≤ 255 := fun r hr' j => by
      obtain ⟨_, _, _, _, hw, _⟩ := hr r hr'
      by_cases hj : j < (Z r).length
      · have hmem : (Z r).getD j 0 ∈ Z r := by rw [List.getD_eq_getElem?_getD, List.getElem?_eq_getElem hj]; exact List.getElem_mem hj
        exact bounds_u8 (hw _ hmem)
      · rw [List.getD_eq_getElem?_getD, List.getElem?_eq_none (by omega)]; decide
    refine ⟨fun i j => if i < cap then num (Z i) j else 0, L, fun i j => ?_, fun i hi => ?_, by omega, ?_⟩
    · show (if i < cap then num (Z i) j else 0) < 256
      by_cases e : i < cap
      · rw [if_pos e]; have := bd i e j; unfold num; omega
      · rw [if_neg e]; decide
    · obtain ⟨_, h1, h2, _⟩ := hr i (by omega)
      omega
    · by_cases len0 : len = 0
      · exact Or.inl len0
      · obtain ⟨p, off, spot⟩ := ad
        have hc := (hr 0 (by omega)).1
        have hspot : spot = none := by simpa [Addr.add] using World.cell?_spot hc
        subst hspot
        refine Or.inr ⟨p, off, rfl, fun i hi => ?_⟩
        obtain ⟨q1, q2, q3, q4, q5, q6, q7⟩ := hr i (by omega)
        have e : (⟨p, off, none⟩ : Addr).add i = ⟨p, off + i, none⟩ := by unfold Addr.add; split <;> simp_all
        rw [e] at q1
        refine ⟨A' i, C i, q1, q2, ?_⟩
        by_cases hL0 : L i = 0
        · exact Or.inl hL0
        · cases hA : A' i with
          | none => have := q6 hA; exfalso; omega
          | some a' =>
            obtain ⟨_, hcell⟩ := q7 a' hA
            obtain ⟨p', off', spot'⟩ := a'
            have hc' := hcell 0 (by omega)
            have hspot' : spot' = none := by simpa [Addr.add] using World.cell?_spot hc'
            subst hspot'
            refine Or.inr ⟨p', off', rfl, fun j hj => ?_⟩
            have h1 := hcell j (by omega)
            have e' : (⟨p', off', none⟩ : Addr).add j = ⟨p', off' + j, none⟩ := by unfold Addr.add; split <;> simp_all
            rw [e'] at h1
            show w.cell? ⟨p', off' + j, none⟩ = some (.int .u8 (((if i < cap then num (Z i) j else 0 : Nat)) : Int))
            rw [h1, if_pos (by omega)]
            unfold num
            rw [Int.toNat_of_nonneg (bd i (by omega) j).1]

/- The step to the row. -/
set_option maxRecDepth 100000 in
theorem lifted (os : Os) (started : os.Started) (H : Type) (enc : TypeId × Value → H) :
    ReturnsInHanded {} Try.checked os 4 .any (Rows.matrixTellsSpec.pre6 enc Try.prog Try.f4 Rows.matrixTellsRow.domain false) (Rows.matrixTellsSpec.post enc Try.prog Try.f4 false true false false) := by
  refine returnsInHanded_of_change (C := Try.checked) own started (by kernel_rfl) Try.func4
    (ChangeSpec.witness6 (enc := enc) (C := Try.checked) false ⟨#[], #[.slice none 0 0, .slice none 0 0, .int .i64 0, .int .i64 0], []⟩ 8 (by kernel_rfl) (by kernel_rfl) (by kernel_rfl) (by kernel_rfl)) ?_
  intro W base args ds gs before hval0 hW hcnd _
  have hval : ∀ (j : Nat) t v, Try.f4.params[j]? = some t → args[j]? = some v → Value.okWide Try.prog W .any base t v := hval0
  have hW' := hW
  obtain ⟨p, q, hA0, hV, rfl, hfz, hnd⟩ := hW
  have hA : DataW.TrodAll enc Try.prog W 0 (fun _ => true) true Try.f4.params.toList args.toList ds p := hA0
  rw [Try.params4] at hA hval
  obtain ⟨v0, vs0, d0, ds0, p0, q0, hargs, rfl, rfl, h0, r0⟩ := trodAll_cons hA
  obtain ⟨v1, vs1, d1, ds1, p1, q1, rfl, rfl, rfl, h1, r1⟩ := trodAll_cons r0
  obtain ⟨v2, vs2, d2, ds2, p2, q2, rfl, rfl, rfl, h2, r2⟩ := trodAll_cons r1
  obtain ⟨v3, vs3, d3, ds3, p3, q3, rfl, rfl, rfl, h3, r3⟩ := trodAll_cons r2
  obtain ⟨rfl, rfl, rfl⟩ := trodAll_nil r3
  obtain rfl : args = #[v0, v1, v2, v3] := by cases args; simp_all
  obtain ⟨rfl, rfl⟩ := trodVars_none hV
  obtain ⟨a0, len0, cap0, rfl⟩ := okWide_slice Try.underlying27 (hval 0 27 v0 rfl rfl)
  obtain ⟨a1, len1, cap1, rfl⟩ := okWide_slice Try.underlying27 (hval 1 27 v1 rfl rfl)
  obtain ⟨n2, rfl, rfl, rfl, w2⟩ := open_int Try.underlying3 (hval 2 3 v2 rfl rfl) h2
  obtain ⟨n3, rfl, rfl, rfl, w3⟩ := open_int Try.underlying3 (hval 3 3 v3 rfl rfl) h3
  have k0 := h0
  have k1 := h1
  have lt0 : ∀ x ∈ p0, x.block < W.heap.size := by obtain ⟨m, hm⟩ := k0; exact DataW.trod_lt m _ _ _ hm
  have lt1 : ∀ x ∈ p1, x.block < W.heap.size := by obtain ⟨m, hm⟩ := k1; exact DataW.trod_lt m _ _ _ hm
  obtain ⟨A, L0, hA8, hL0, hm0, rA⟩ : ∃ (A : Nat → Nat → Nat) (L : Nat → Nat), Gf.B8 A ∧ (∀ i, i < len0 → L i ≤ maxLen) ∧ len0 ≤ maxLen ∧ MatL W a0 A L len0 := by
    obtain ⟨fuel, hf⟩ := h0
    exact open_mat hf
  obtain ⟨B, L1, hB8, hL1, hm1, rB⟩ : ∃ (A : Nat → Nat → Nat) (L : Nat → Nat), Gf.B8 A ∧ (∀ i, i < len1 → L i ≤ maxLen) ∧ len1 ≤ maxLen ∧ MatL W a1 A L len1 := by
    obtain ⟨fuel, hf⟩ := h1
    exact open_mat hf
  clear hA0 hval0
  refine (mtells_any a0 a1 len0 cap0 len1 cap1 A B L0 L1 n2 n3 hA8 hB8 hL0 hL1 hm0 hm1 W rA rB).mono fun e W' ⟨he, bel⟩ => ?_
  subst he
  exact ⟨_, rfl, _, _, _, [], _, [], hW', trodAll_mk1 (shut_bool Try.underlying4 _), (trodAll_cons_mk (Below.trod laidOut (by kernel_rfl) (of_decide_eq_true (by kernel_rfl)) k0 bel lt0) (trodAll_cons_mk (Below.trod laidOut (by kernel_rfl) (of_decide_eq_true (by kernel_rfl)) k1 bel lt1) (trodAll_cons_mk (shut_int Try.underlying3 w2) (trodAll_cons_mk (shut_int Try.underlying3 w3) trodAll_mk0)))), rfl, bel.frame _, fun h => by cases h⟩

theorem over : Rows.matrixTellsRow.holds Try.pinned (OpenSpec.ofChange Rows.matrixTellsSpec) :=
  OpenClaim.holds_of_wide 4 Try.f4 rfl rfl rfl rfl rfl rfl rfl ⟨rfl, rfl, rfl, rfl, rfl⟩ rfl rfl rfl rfl rfl (by kernel_rfl) Try.func4 (by kernel_rfl)
    (of_decide_eq_true (by kernel_rfl)) (by unfold Func.isWrapper; first | (rw [if_pos (by decide +kernel)]; kernel_rfl) | (rw [if_neg (by decide +kernel)]; exact ⟨rfl, rfl⟩))
    (fun os started H enc _ => lifted os started H enc)

end Go.Proofs.Ytdinhkcdllmmkaa.matrixTells
namespace Go.Proofs.Ytdinhkcdllmmkaa
theorem matrixTells_holds : Rows.MatrixTellsSaid := matrixTells.over
#print axioms matrixTells_holds
end Go.Proofs.Ytdinhkcdllmmkaa
