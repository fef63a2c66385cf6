/-
  Proved: the law AnswerValues returns true for every two rows of values, with their numbers or without: two rows, one behind the other, say what both say, but for one END. Where the three listed tables of the library read as it lays them (the tied card says so); no other condition; the arguments read as before.
-/
import Derived.Test.YtjlcnfafjblmkaaDoorRows
import Derived.Test.YtjlcnfafjblmkaaDoorCards
import Derived.Test.YtjlcnfafjblmkaaDoorTie
import Derived.Test.YtjlcnfafjblmkaaDoorLaid3
import Derived.Test.YtjlcnfafjblmkaaDoorVsW
import Derived.Test.YtjlcnfafjblmkaaDoorOpen
import Derived.ChangeOld
import Derived.Below
import Derived.WalkKit
import Derived.ProofKit
import Derived.OpenShut
import Derived.ShutString
import Derived.LaidMore
import Derived.Stop.Joined
import Derived.SevenTiedAt
import Derived.SizedLaws
namespace Go.Proofs.YtjlcnfafjblmkaaDoor.answerValues
open Go.ChangeShapes Go.WideShapes Go.ChangeAt Go.RowKit
open Go.ChangeMaps (open_string shut_string)
set_option linter.unusedVariables false

theorem own : ownKnob Tryd.prog.godebug = none := by kernel_rfl

theorem laidOut : laidOutB Tryd.prog = true := by kernel_rfl
/- The walk: the law returns true, and nothing that was there has turned. -/
theorem walk (a0 : Option Addr) (len0 cap0 : Nat) (z0 : List Fd) (a1 : Option Addr) (len1 cap1 : Nat) (z1 : List Fd) (a2 : Bool) (e0 : z0.length = len0) (n0 : len0 ≤ 9223372036854775807) (b0 : FdsIn z0) {W : World} (s0 : FdF W a0 z0) (e1 : z1.length = len1) (n1 : len1 ≤ 9223372036854775807) (b1 : FdsIn z1) (s1 : FdF W a1 z1) (w : World) (hw : w = W) (ht : Tb w) :
    Calls Tryd.prog 5 #[.slice a0 len0 cap0, .slice a1 len1 cap1, .bool a2] w fun e w' => e = .returned (.bool true) ∧ Below w.heap.size w w' := by
  subst hw
  exact vals_walk z0 z1 a2 a0 a1 len0 len1 cap0 cap1 w e0 e1 b0 b1 n0 n1 s0 s1 ht

/- The step to the row. -/
set_option maxRecDepth 100000 in
theorem lifted (os : Os) (started : os.Started) (H : Type) (enc : TypeId × Value → H) :
    ReturnsInHanded {} Tryd.checked os 5 .any (fun w args => (Rows.answerValuesSpec.pre enc Tryd.prog Tryd.f5 [] false w args ∧ laidMetH Tryd.prog laid3 w) ∧ sizedMet enc Tryd.prog Tryd.f5 (OpenSpec.ofChange Rows.answerValuesSpec) false w args)
      (Rows.answerValuesSpec.post enc Tryd.prog Tryd.f5 false true false false) := by
  refine returnsInHanded_of_change_and (C := Tryd.checked) (X := fun w _ => laidMetH Tryd.prog laid3 w) (fun _ _ _ hh h => h.of_heap hh) own started (by kernel_rfl) Tryd.func5
    (ChangeSpec.witness_shaped (enc := enc) (C := Tryd.checked) (os := os) (X := fun w _ => laidMetH Tryd.prog laid3 w) false (World.doorLaid Tryd.prog 400 os) #[.slice none 0 0, .slice none 0 0, .bool false] 8 rfl (World.shaped_of_RefB (by kernel_rfl) (by kernel_rfl)) (by kernel_rfl) (by kernel_rfl) (by kernel_rfl) (door_met3 os _)) ?_
  intro W base args ds gs before hval0 hW _ hsz0 hL _
  have hval : ∀ (j : Nat) t v, Tryd.f5.params[j]? = some t → args[j]? = some v → Value.okWide Tryd.prog W .any base t v := hval0
  have hW' := hW
  obtain ⟨p, q, hA0, hV, rfl, hfz, hnd⟩ := hW
  have hA : DataW.TrodAll enc Tryd.prog W 0 (fun _ => true) true Tryd.f5.params.toList args.toList ds p := hA0
  have hsz : (DataW.weightsEach Tryd.prog (Tryd.f5.params.toList ++ Rows.answerValuesSpec.plain.varTypes Tryd.prog) (ds ++ gs)).all (· ≤ reachBytes) = true := hsz0
  rw [Tryd.params5] at hA hval hsz
  obtain ⟨v0, vs0, d0, ds0, p0, q0, hargs, rfl, rfl, h0, r0⟩ := trodAll_cons hA
  obtain ⟨v1, vs1, d1, ds1, p1, q1, rfl, rfl, rfl, h1, r1⟩ := trodAll_cons r0
  obtain ⟨v2, vs2, d2, ds2, p2, q2, rfl, rfl, rfl, h2, r2⟩ := trodAll_cons r1
  obtain ⟨rfl, rfl, rfl⟩ := trodAll_nil r2
  obtain rfl : args = #[v0, v1, v2] := by cases args; simp_all
  obtain ⟨rfl, rfl⟩ := trodVars_none hV
  obtain ⟨a0, len0, cap0, rfl⟩ := okWide_slice under24o (hval 0 24 v0 rfl rfl)
  have k0 := h0
  have lt0 : ∀ x ∈ p0, x.block < W.heap.size := by obtain ⟨m, hm⟩ := k0; exact DataW.trod_lt m _ _ _ hm
  obtain ⟨z0, e0, s0, n0, b0⟩ : ∃ z : List Fd, z.length = len0 ∧ FdF W a0 z ∧ len0 ≤ 9223372036854775807 ∧ FdsIn z := by
    obtain ⟨fuel, hf⟩ := h0
    obtain ⟨a', cap', fs, hc, hF, hn, hw⟩ := open_fds hf
    simp [Value.cells] at hc
    obtain ⟨rfl, rfl, rfl⟩ := hc
    have r : reachBytes = 140737488351232 := rfl
    have sz : ∀ y, y ∈ d0.weights Tryd.prog 24 → y ≤ 140737488355328 := fun y hy => by
      have m1 := List.all_eq_true.1 hsz _ (DataW.weights_mem_each (j := 0) (t := 24) rfl rfl _ hy)
      have := of_decide_eq_true m1; omega
    exact ⟨fs, rfl, hF, hn, fun f hf => ⟨sz _ (hw f hf).1, sz _ (hw f hf).2.1, (hw f hf).2.2⟩⟩
  obtain ⟨a1, len1, cap1, rfl⟩ := okWide_slice under24o (hval 1 24 v1 rfl rfl)
  have k1 := h1
  have lt1 : ∀ x ∈ p1, x.block < W.heap.size := by obtain ⟨m, hm⟩ := k1; exact DataW.trod_lt m _ _ _ hm
  obtain ⟨z1, e1, s1, n1, b1⟩ : ∃ z : List Fd, z.length = len1 ∧ FdF W a1 z ∧ len1 ≤ 9223372036854775807 ∧ FdsIn z := by
    obtain ⟨fuel, hf⟩ := h1
    obtain ⟨a', cap', fs, hc, hF, hn, hw⟩ := open_fds hf
    simp [Value.cells] at hc
    obtain ⟨rfl, rfl, rfl⟩ := hc
    have r : reachBytes = 140737488351232 := rfl
    have sz : ∀ y, y ∈ d1.weights Tryd.prog 24 → y ≤ 140737488355328 := fun y hy => by
      have m1 := List.all_eq_true.1 hsz _ (DataW.weights_mem_each (j := 1) (t := 24) rfl rfl _ hy)
      have := of_decide_eq_true m1; omega
    exact ⟨fs, rfl, hF, hn, fun f hf => ⟨sz _ (hw f hf).1, sz _ (hw f hf).2.1, (hw f hf).2.2⟩⟩
  obtain ⟨a2, rfl, rfl, rfl⟩ := open_bool Tryd.underlying4 (hval 2 4 v2 rfl rfl) h2
  clear hA0 hval0
  refine (walk a0 len0 cap0 z0 a1 len1 cap1 z1 a2 e0 n0 b0 s0 e1 n1 b1 s1  W rfl (of_laid3 hL)).mono fun e W' ⟨he, hg⟩ => ?_
  subst he
  exact ⟨_, rfl, _, _, _, [], _, [], hW', (trodAll_cons_mk (shut_bool Tryd.underlying4 _) trodAll_mk0), (trodAll_cons_mk (Below.trod laidOut (by kernel_rfl) (of_decide_eq_true (by kernel_rfl)) k0 hg lt0) (trodAll_cons_mk (Below.trod laidOut (by kernel_rfl) (of_decide_eq_true (by kernel_rfl)) k1 hg lt1) (trodAll_cons_mk (shut_bool Tryd.underlying4 a2) trodAll_mk0))), rfl, hg.frame _, fun h => by cases h⟩

theorem over : Rows.answerValuesRow.holds Tryd.pinned (OpenSpec.ofChange Rows.answerValuesSpec) :=
  OpenClaim.holds_of_wide 5 Tryd.f5 rfl rfl rfl rfl rfl rfl rfl ⟨rfl, rfl, rfl, rfl, rfl⟩ rfl rfl rfl rfl rfl (by kernel_rfl) Tryd.func5 (by kernel_rfl)
    (of_decide_eq_true (by kernel_rfl)) (by unfold Func.isWrapper; first | (rw [if_pos (by decide +kernel)]; kernel_rfl) | (rw [if_neg (by decide +kernel)]; exact ⟨rfl, rfl⟩))
    (fun os started H enc _ => lifted os started H enc)

/- The card: the listed table is tied to the program's text. -/
theorem card : Claim7.holds Tryd.pinned (.plain (OpenSpec.ofChange Rows.answerValuesSpec)) Rows.answerValuesCard :=
  Claim7.holds_tied_plain_at .later [] [.data, .data, .data] true (true, "276de4848b140c109e6fb88af41c36fe312e87038fdbe3216dc04968ada83ec3") false
    over (fun _ h => by cases h) (by kernel_rfl) (fun _ h => by cases h) answerValues_row_tie rfl ⟨rfl, rfl⟩ (by kernel_rfl) rfl
    (fun f fn hf hfn => by
      obtain rfl : f = 5 := Option.some.inj ((show Tryd.prog.funcNamed "depot/depotlaw14.AnswerValues" = some 5 by kernel_rfl).symm.trans hf) |>.symm
      obtain rfl : fn = Tryd.f5 := (Option.some.inj (Tryd.func5.symm.trans hfn)).symm
      exact ⟨by kernel_rfl, fun j t ht => by
        rw [Tryd.params5] at ht
        have hm : t ∈ ([24, 24, 4] : List TypeId) := by simpa using Array.mem_of_getElem? ht
        have hall : (([24, 24, 4] : List TypeId).all fun u => !Tryd.prog.wantsStandIn u) = true := by kernel_rfl
        exact (show Tryd.prog.wantsStandIn t = false by simpa using List.all_eq_true.1 hall t hm)⟩)
    (by kernel_rfl)
end Go.Proofs.YtjlcnfafjblmkaaDoor.answerValues
namespace Go.Proofs.YtjlcnfafjblmkaaDoor
theorem answerValues_holds : Rows.AnswerValuesCardSaid := answerValues.card
#print axioms answerValues_holds
end Go.Proofs.YtjlcnfafjblmkaaDoor
