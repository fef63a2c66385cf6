/-
  Proved: the law AnswerTells returns true for every answer, quiet or not: its lines are those that the document says, and it is told to a request just if the document says so. Where the three listed tables of the library read as it lays them (the tied card says so); no other condition; the arguments read as before.
-/
import Derived.Test.YtjlcnfafjblmkaaDoorRows
import Derived.Test.YtjlcnfafjblmkaaDoorCards
import Derived.Test.YtjlcnfafjblmkaaDoorTie
import Derived.Test.YtjlcnfafjblmkaaDoorLaid3
import Derived.Test.YtjlcnfafjblmkaaDoorTells
import Derived.Test.YtjlcnfafjblmkaaDoorOpen
import Derived.ChangeOld
import Derived.Below
import Derived.WalkKit
import Derived.ProofKit
import Derived.OpenShut
import Derived.ShutString
import Derived.LaidMore
import Derived.Stop.Joined
import Derived.SevenTiedAt
import Derived.SizedLaws
namespace Go.Proofs.YtjlcnfafjblmkaaDoor.answerTells
open Go.ChangeShapes Go.WideShapes Go.ChangeAt Go.RowKit
open Go.ChangeMaps (open_string shut_string)
set_option linter.unusedVariables false

theorem own : ownKnob Tryd.prog.godebug = none := by kernel_rfl

theorem laidOut : laidOutB Tryd.prog = true := by kernel_rfl
/- The walk: the law returns true, and nothing that was there has turned. -/
theorem walk (z0 : An) (a0 : Option Addr) (c0 : Nat) (a1 : Bool) (n0 : z0.fs.length ≤ 9223372036854775807) (b0 : AnIn z0) {W : World} (s0 : FdF W a0 z0.fs) (w : World) (hw : w = W) (ht : Tb w) :
    Calls Tryd.prog 4 #[z0.v a0 c0, .bool a1] w fun e w' => e = .returned (.bool true) ∧ Below w.heap.size w w' := by
  subst hw
  exact tells_walk z0 a0 c0 a1 w b0 n0 s0 ht

/- The step to the row. -/
set_option maxRecDepth 100000 in
theorem lifted (os : Os) (started : os.Started) (H : Type) (enc : TypeId × Value → H) :
    ReturnsInHanded {} Tryd.checked os 4 .any (fun w args => (Rows.answerTellsSpec.pre enc Tryd.prog Tryd.f4 [] false w args ∧ laidMetH Tryd.prog laid3 w) ∧ sizedMet enc Tryd.prog Tryd.f4 (OpenSpec.ofChange Rows.answerTellsSpec) false w args)
      (Rows.answerTellsSpec.post enc Tryd.prog Tryd.f4 false true false false) := by
  refine returnsInHanded_of_change_and (C := Tryd.checked) (X := fun w _ => laidMetH Tryd.prog laid3 w) (fun _ _ _ hh h => h.of_heap hh) own started (by kernel_rfl) Tryd.func4
    (ChangeSpec.witness_shaped (enc := enc) (C := Tryd.checked) (os := os) (X := fun w _ => laidMetH Tryd.prog laid3 w) false (World.doorLaid Tryd.prog 400 os) #[.agg #[.int .i64 0, .slice none 0 0, .bool false, .int .u64 0, .string ⟨#[]⟩, .int .i64 0, .int .i64 0, .int .i64 0, .int .i64 0], .bool false] 8 rfl (World.shaped_of_RefB (by kernel_rfl) (by kernel_rfl)) (by kernel_rfl) (by kernel_rfl) (by kernel_rfl) (door_met3 os _)) ?_
  intro W base args ds gs before hval0 hW _ hsz0 hL _
  have hval : ∀ (j : Nat) t v, Tryd.f4.params[j]? = some t → args[j]? = some v → Value.okWide Tryd.prog W .any base t v := hval0
  have hW' := hW
  obtain ⟨p, q, hA0, hV, rfl, hfz, hnd⟩ := hW
  have hA : DataW.TrodAll enc Tryd.prog W 0 (fun _ => true) true Tryd.f4.params.toList args.toList ds p := hA0
  have hsz : (DataW.weightsEach Tryd.prog (Tryd.f4.params.toList ++ Rows.answerTellsSpec.plain.varTypes Tryd.prog) (ds ++ gs)).all (· ≤ reachBytes) = true := hsz0
  rw [Tryd.params4] at hA hval hsz
  obtain ⟨v0, vs0, d0, ds0, p0, q0, hargs, rfl, rfl, h0, r0⟩ := trodAll_cons hA
  obtain ⟨v1, vs1, d1, ds1, p1, q1, rfl, rfl, rfl, h1, r1⟩ := trodAll_cons r0
  obtain ⟨rfl, rfl, rfl⟩ := trodAll_nil r1
  obtain rfl : args = #[v0, v1] := by cases args; simp_all
  obtain ⟨rfl, rfl⟩ := trodVars_none hV
  obtain ⟨cs0, hv0, _⟩ := okWide_struct under28s (hval 0 28 v0 rfl rfl)
  have k0 := h0
  have lt0 : ∀ x ∈ p0, x.block < W.heap.size := by obtain ⟨m, hm⟩ := k0; exact DataW.trod_lt m _ _ _ hm
  obtain ⟨z0, a0, c0, e0, s0, n0, b0⟩ : ∃ (z : An) (a : Option Addr) (cap : Nat), v0 = z.v a cap ∧ FdF W a z.fs ∧ z.fs.length ≤ 9223372036854775807 ∧ AnIn z := by
    obtain ⟨fuel, hf⟩ := h0
    obtain ⟨z, a, cap, hz, hF, hn, hw, ht, hm, q0, q1, q2, q3⟩ := open_answer hf
    have r : reachBytes = 140737488351232 := rfl
    have sz : ∀ y, y ∈ d0.weights Tryd.prog 28 → y ≤ 140737488355328 := fun y hy => by
      have m1 := List.all_eq_true.1 hsz _ (DataW.weights_mem_each (j := 0) (t := 28) rfl rfl _ hy)
      have := of_decide_eq_true m1; omega
    refine ⟨z, a, cap, ?_, hF, hn, ⟨fun f hf => ⟨sz _ (hw f hf).1, sz _ (hw f hf).2.1, (hw f hf).2.2⟩, sz _ ht, hm, q0, q1, q2, q3⟩⟩
    rw [← hz, hv0]
    simp [Value.cells]
  subst e0
  clear hv0
  obtain ⟨a1, rfl, rfl, rfl⟩ := open_bool Tryd.underlying4 (hval 1 4 v1 rfl rfl) h1
  clear hA0 hval0
  refine (walk z0 a0 c0 a1 n0 b0 s0  W rfl (of_laid3 hL)).mono fun e W' ⟨he, hg⟩ => ?_
  subst he
  exact ⟨_, rfl, _, _, _, [], _, [], hW', (trodAll_cons_mk (shut_bool Tryd.underlying4 _) trodAll_mk0), (trodAll_cons_mk (Below.trod laidOut (by kernel_rfl) (of_decide_eq_true (by kernel_rfl)) k0 hg lt0) (trodAll_cons_mk (shut_bool Tryd.underlying4 a1) trodAll_mk0)), rfl, hg.frame _, fun h => by cases h⟩

theorem over : Rows.answerTellsRow.holds Tryd.pinned (OpenSpec.ofChange Rows.answerTellsSpec) :=
  OpenClaim.holds_of_wide 4 Tryd.f4 rfl rfl rfl rfl rfl rfl rfl ⟨rfl, rfl, rfl, rfl, rfl⟩ rfl rfl rfl rfl rfl (by kernel_rfl) Tryd.func4 (by kernel_rfl)
    (of_decide_eq_true (by kernel_rfl)) (by unfold Func.isWrapper; first | (rw [if_pos (by decide +kernel)]; kernel_rfl) | (rw [if_neg (by decide +kernel)]; exact ⟨rfl, rfl⟩))
    (fun os started H enc _ => lifted os started H enc)

/- The card: the listed table is tied to the program's text. -/
theorem card : Claim7.holds Tryd.pinned (.plain (OpenSpec.ofChange Rows.answerTellsSpec)) Rows.answerTellsCard :=
  Claim7.holds_tied_plain_at .later [] [.data, .data, .data] true (true, "276de4848b140c109e6fb88af41c36fe312e87038fdbe3216dc04968ada83ec3") false
    over (fun _ h => by cases h) (by kernel_rfl) (fun _ h => by cases h) answerTells_row_tie rfl ⟨rfl, rfl⟩ (by kernel_rfl) rfl
    (fun f fn hf hfn => by
      obtain rfl : f = 4 := Option.some.inj ((show Tryd.prog.funcNamed "depot/depotlaw14.AnswerTells" = some 4 by kernel_rfl).symm.trans hf) |>.symm
      obtain rfl : fn = Tryd.f4 := (Option.some.inj (Tryd.func4.symm.trans hfn)).symm
      exact ⟨by kernel_rfl, fun j t ht => by
        rw [Tryd.params4] at ht
        have hm : t ∈ ([28, 4] : List TypeId) := by simpa using Array.mem_of_getElem? ht
        have hall : (([28, 4] : List TypeId).all fun u => !Tryd.prog.wantsStandIn u) = true := by kernel_rfl
        exact (show Tryd.prog.wantsStandIn t = false by simpa using List.all_eq_true.1 hall t hm)⟩)
    (by kernel_rfl)
end Go.Proofs.YtjlcnfafjblmkaaDoor.answerTells
namespace Go.Proofs.YtjlcnfafjblmkaaDoor
theorem answerTells_holds : Rows.AnswerTellsCardSaid := answerTells.card
#print axioms answerTells_holds
end Go.Proofs.YtjlcnfafjblmkaaDoor
