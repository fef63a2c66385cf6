/-
  Proved: the law ModelPlays returns true: any calls, one behind the other: each answers, and the entries are, what the document says; a twin that was taken stays. Where what it reads is together of bulk at most 1048576 (the second form), and where the three listed tables of the library read as it lays them (the tied card says so); no other condition; the arguments read as before.
-/
import Derived.Test.YtpkmfckifnomeaaDoorRows
import Derived.Test.YtpkmfckifnomeaaDoorCards
import Derived.Test.YtpkmfckifnomeaaDoorTie
import Derived.Test.YtpkmfckifnomeaaDoorLaid3
import Derived.Test.YtpkmfckifnomeaaDoorPl
import Derived.ChangeOld
import Derived.Below
import Derived.WalkKit
import Derived.ProofKit
import Derived.OpenShut
import Derived.ShutString
import Derived.LaidMore
import Derived.Stop.Joined
import Derived.SevenTiedAt
import Derived.Deep.DeepHandedRow
import Derived.Lib.LaidTab
namespace Go.Proofs.YtpkmfckifnomeaaDoor.modelPlays
open Go.ChangeShapes Go.WideShapes Go.ChangeAt Go.RowKit
open Go.ChangeMaps (open_string shut_string)
set_option linter.unusedVariables false

theorem own : ownKnob Tryd.prog.godebug = none := by kernel_rfl

/- The walk: the law returns true, and nothing that was there has turned. -/
theorem walk (a0 : Option Addr) (cap0 : Nat) (z0 : List Ak) (n0 : z0.length ≤ 9223372036854775807) (b0 : ∀ k ∈ z0, ksum k.ks + k.r.data.size + k.key.size ≤ 1048576) {W : World} (s0 : AksF W a0 z0) (w : World) (hw : w = W) (ht : Tb w) :
    Calls Tryd.prog 4 #[.slice a0 z0.length cap0] w fun e w' => e = .returned (.bool true) ∧ Below w.heap.size w w' := by
  subst hw
  exact plays_walk a0 cap0 z0 n0 b0 w s0 ht

/- The step to the row, where what is read is of a bulk that is bounded. -/
theorem reads (os : Os) {H : Type} (enc : TypeId × Value → H) : ∃ places, DataW.whole enc Tryd.prog ((World.doorLaid Tryd.prog 400 os).forCall (fun _ _ => 0) ⟨#[], #[.slice none 0 0], []⟩).memory Tryd.f4.params.toList Rows.modelPlaysSpec.vars false (#[.slice none 0 0] : Array Value).toList 8 = some ([.nil], [], places) :=
  ⟨[], by kernel_rfl⟩
set_option maxRecDepth 100000 in
theorem lifted (os : Os) (started : os.Started) (H : Type) (enc : TypeId × Value → H) (F : Stop.Interp) :
    ReturnsInHanded {} Tryd.checked os 4 .any ((Rows.OpenSpec.upto Rows.modelPlaysSpec).preRow enc Tryd.prog Tryd.f4 Rows.modelPlaysUptoRow.domain false Rows.modelPlaysUptoRow.laid) (((Rows.OpenSpec.upto Rows.modelPlaysSpec).at F).post enc Tryd.prog Tryd.f4 false true false false) := by
  obtain ⟨places, hx⟩ := reads os enc
  refine returnsInHanded_of_row (C := Tryd.checked) (s := (Rows.OpenSpec.upto Rows.modelPlaysSpec)) own started (by kernel_rfl) Tryd.func4
    (witness_row_at (enc := enc) (C := Tryd.checked) false (World.doorLaid Tryd.prog 400 os) #[.slice none 0 0] rfl (by kernel_rfl) (by kernel_rfl) (by kernel_rfl)
      (OpenSpec.preRow_of_cond 8 hx (by kernel_rfl) (fun k hk => by cases hk; kernel_rfl) (by kernel_rfl) (door_met3 os _))) ?_
  intro W base args ds gs before hval0 hW _ hcond hsz0 hL _ _
  have hval : ∀ (j : Nat) t v, Tryd.f4.params[j]? = some t → args[j]? = some v → Value.okWide Tryd.prog W .any base t v := hval0
  have hW' := hW
  obtain ⟨p, q, hA0, hV, rfl, hfz, hnd⟩ := hW
  have hA : DataW.TrodAll enc Tryd.prog W 0 (fun _ => true) true Tryd.f4.params.toList args.toList ds p := hA0
  rw [Tryd.params4] at hA hval
  obtain ⟨v0, vs0, d0, ds0, p0, q0, hargs, rfl, rfl, h0, r0⟩ := trodAll_cons hA
  obtain ⟨rfl, rfl, rfl⟩ := trodAll_nil r0
  obtain rfl : args = #[v0] := by cases args; simp_all
  obtain ⟨rfl, rfl⟩ := trodVars_none hV
  have hB : Rows.uptoBulkAll ([d0] ++ []) ≤ 1048576 := of_decide_eq_true (hcond _ rfl)
  obtain ⟨a0, len0, cap0, rfl⟩ := okWide_slice under37 (hval 0 37 v0 rfl rfl)
  have k0 := h0
  have lt0 : ∀ x ∈ p0, x.block < W.heap.size := by obtain ⟨m, hm⟩ := k0; exact DataW.trod_lt m _ _ _ hm
  obtain ⟨z0, e0, s0, n0, b0⟩ : ∃ z : List Ak, z.length = len0 ∧ AksF W a0 z ∧ z.length ≤ 9223372036854775807 ∧ ∀ k ∈ z, ksum k.ks + k.r.data.size + k.key.size ≤ 1048576 := by
    obtain ⟨fuel, hf⟩ := h0
    obtain ⟨a', cap', l, hc, hAk, hn, hb⟩ := open_asks hf
    simp [Value.cells] at hc
    obtain ⟨rfl, rfl, rfl⟩ := hc
    exact ⟨l, rfl, hAk, hn, fun k hk => Nat.le_trans (hb k hk) (Nat.le_trans (bulk_part (by simp)) hB)⟩
  subst e0
  clear hA0 hval0
  refine (walk a0 cap0 z0 n0 b0 s0 W rfl (of_laid3 hL)).mono fun e W' ⟨he, hg⟩ => ?_
  subst he
  exact ⟨_, rfl, _, _, _, [], _, [], hW', (trodAll_cons_mk (shut_bool Tryd.underlying4 _) trodAll_mk0), (trodAll_cons_mk (Below.trod laidOut (by kernel_rfl) (of_decide_eq_true (by kernel_rfl)) k0 hg lt0) trodAll_mk0), rfl, hg.frame _, fun h => by cases h⟩

theorem over : Rows.modelPlaysUptoRow.holds Tryd.pinned (Rows.OpenSpec.upto Rows.modelPlaysSpec) :=
  OpenClaim.holds_of_cond 4 Tryd.f4 rfl rfl rfl rfl rfl rfl rfl ⟨rfl, rfl, rfl, rfl, rfl⟩ rfl rfl rfl rfl rfl (by kernel_rfl) Tryd.func4 (by kernel_rfl)
    (of_decide_eq_true (by kernel_rfl)) (by unfold Func.isWrapper; first | (rw [if_pos (by decide +kernel)]; kernel_rfl) | (rw [if_neg (by decide +kernel)]; exact ⟨rfl, rfl⟩))
    (fun os started H enc _ F => by rw [OpenClaim.pre_eq_preRow]; exact lifted os started H enc F)

/- The card: the listed table is tied to the program's text. -/
theorem card : Claim7.holds Tryd.pinned (.plain (Rows.OpenSpec.upto Rows.modelPlaysSpec)) Rows.modelPlaysUptoCard :=
  Claim7.holds_tied_plain_at .later [] [.data, .data, .data] true (true, "5fbd9d99f3d36ce59a6c0eb648524286286ca4a592e5bc0fbcf03847be6cbd31") true
    over (fun _ h => by cases h) (by kernel_rfl) (fun _ h => by cases h) modelPlaysUpto_row_tie rfl ⟨rfl, rfl⟩ (by kernel_rfl) rfl
    (fun f fn hf hfn => by
      obtain rfl : f = 4 := Option.some.inj ((show Tryd.prog.funcNamed "depot/depotlaw15.ModelPlays" = some 4 by kernel_rfl).symm.trans hf) |>.symm
      obtain rfl : fn = Tryd.f4 := (Option.some.inj (Tryd.func4.symm.trans hfn)).symm
      exact ⟨by kernel_rfl, fun j t ht => by
        rw [Tryd.params4] at ht
        have hm : t ∈ ([37] : List TypeId) := by simpa using Array.mem_of_getElem? ht
        have hall : (([37] : List TypeId).all fun u => !Tryd.prog.wantsStandIn u) = true := by kernel_rfl
        exact (show Tryd.prog.wantsStandIn t = false by simpa using List.all_eq_true.1 hall t hm)⟩)
    (by kernel_rfl)
end Go.Proofs.YtpkmfckifnomeaaDoor.modelPlays
namespace Go.Proofs.YtpkmfckifnomeaaDoor
theorem modelPlaysUpto_holds : Rows.ModelPlaysUptoCardSaid := modelPlays.card
#print axioms modelPlaysUpto_holds
end Go.Proofs.YtpkmfckifnomeaaDoor
