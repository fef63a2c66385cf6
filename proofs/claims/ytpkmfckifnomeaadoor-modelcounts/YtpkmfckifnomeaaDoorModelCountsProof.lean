/-
  Proved: the law ModelCounts returns true for every first number and all deltas, up and down: the numbers add by 2^64, and never go below nought. Where the three listed tables of the library read as it lays them (the tied card says so); no other condition; the arguments read as before.
-/
import Derived.Test.YtpkmfckifnomeaaDoorRows
import Derived.Test.YtpkmfckifnomeaaDoorCards
import Derived.Test.YtpkmfckifnomeaaDoorTie
import Derived.Test.YtpkmfckifnomeaaDoorLaid3
import Derived.Test.YtpkmfckifnomeaaDoorCt
import Derived.Test.YtpkmfckifnomeaaDoorOp1
import Derived.ChangeOld
import Derived.Below
import Derived.WalkKit
import Derived.ProofKit
import Derived.OpenShut
import Derived.ShutString
import Derived.LaidMore
import Derived.Stop.Joined
import Derived.SevenTiedAt
namespace Go.Proofs.YtpkmfckifnomeaaDoor.modelCounts
open Go.ChangeShapes Go.WideShapes Go.ChangeAt Go.RowKit
open Go.ChangeMaps (open_string shut_string)
set_option linter.unusedVariables false

theorem own : ownKnob Tryd.prog.godebug = none := by kernel_rfl

/- The walk: the law returns true, and nothing that was there has turned. -/
theorem walk (a0 : Int) (a1 : Option Addr) (len1 cap1 : Nat) (z1 : Nat → Nat) (a2 : Option Addr) (len2 cap2 : Nat) (z2 : Nat → Bool) (w0 : (Lit.int .u64 a0).wf = true) (n1 : len1 ≤ 9223372036854775807) {W : World} (s1 : CellF W a1 (fun j => .int .u64 ((z1 j : Nat) : Int)) len1) (u1 : ∀ j, j < len1 → z1 j < 18446744073709551616) (n2 : len2 ≤ 9223372036854775807) (s2 : CellF W a2 (fun j => .bool (z2 j)) len2) (w : World) (hw : w = W) (ht : Tb w) :
    Calls Tryd.prog 7 #[.int .u64 a0, .slice a1 len1 cap1, .slice a2 len2 cap2] w fun e w' => e = .returned (.bool true) ∧ Below w.heap.size w w' := by
  subst hw
  obtain ⟨b1, b2⟩ := wf_u64 w0
  have := counts_walk a0.toNat a1 len1 cap1 z1 a2 len2 cap2 z2 (by omega) n1 w u1 s1 s2 ht
  rwa [show ((a0.toNat : Nat) : Int) = a0 by omega] at this

/- The step to the row. -/
set_option maxRecDepth 100000 in
theorem lifted (os : Os) (started : os.Started) (H : Type) (enc : TypeId × Value → H) :
    ReturnsInHanded {} Tryd.checked os 7 .any (fun w args => (Rows.modelCountsSpec.pre enc Tryd.prog Tryd.f7 [] false w args ∧ laidMetH Tryd.prog laid3 w) ∧ sizedMet enc Tryd.prog Tryd.f7 (OpenSpec.ofChange Rows.modelCountsSpec) false w args)
      (Rows.modelCountsSpec.post enc Tryd.prog Tryd.f7 false true false false) := by
  refine returnsInHanded_of_change_and (C := Tryd.checked) (X := fun w _ => laidMetH Tryd.prog laid3 w) (fun _ _ _ hh h => h.of_heap hh) own started (by kernel_rfl) Tryd.func7
    (ChangeSpec.witness_shaped (enc := enc) (C := Tryd.checked) (os := os) (X := fun w _ => laidMetH Tryd.prog laid3 w) false (World.doorLaid Tryd.prog 400 os) #[.int .u64 0, .slice none 0 0, .slice none 0 0] 8 rfl (World.shaped_of_RefB (by kernel_rfl) (by kernel_rfl)) (by kernel_rfl) (by kernel_rfl) (by kernel_rfl) (door_met3 os _)) ?_
  intro W base args ds gs before hval0 hW _ hsz0 hL _
  have hval : ∀ (j : Nat) t v, Tryd.f7.params[j]? = some t → args[j]? = some v → Value.okWide Tryd.prog W .any base t v := hval0
  have hW' := hW
  obtain ⟨p, q, hA0, hV, rfl, hfz, hnd⟩ := hW
  have hA : DataW.TrodAll enc Tryd.prog W 0 (fun _ => true) true Tryd.f7.params.toList args.toList ds p := hA0
  rw [Tryd.params7] at hA hval
  obtain ⟨v0, vs0, d0, ds0, p0, q0, hargs, rfl, rfl, h0, r0⟩ := trodAll_cons hA
  obtain ⟨v1, vs1, d1, ds1, p1, q1, rfl, rfl, rfl, h1, r1⟩ := trodAll_cons r0
  obtain ⟨v2, vs2, d2, ds2, p2, q2, rfl, rfl, rfl, h2, r2⟩ := trodAll_cons r1
  obtain ⟨rfl, rfl, rfl⟩ := trodAll_nil r2
  obtain rfl : args = #[v0, v1, v2] := by cases args; simp_all
  obtain ⟨rfl, rfl⟩ := trodVars_none hV
  obtain ⟨a0, rfl, rfl, rfl, w0⟩ := open_int Tryd.underlying25 (hval 0 25 v0 rfl rfl) h0
  obtain ⟨a1, len1, cap1, rfl⟩ := okWide_slice under58 (hval 1 58 v1 rfl rfl)
  have k1 := h1
  have lt1 : ∀ x ∈ p1, x.block < W.heap.size := by obtain ⟨m, hm⟩ := k1; exact DataW.trod_lt m _ _ _ hm
  obtain ⟨z1, s1, n1, u1⟩ : ∃ T : Nat → Nat, CellF W a1 (fun j => .int .u64 ((T j : Nat) : Int)) len1 ∧ len1 ≤ 9223372036854775807 ∧ ∀ j, j < len1 → T j < 18446744073709551616 := by
    obtain ⟨fuel, hf⟩ := h1
    exact open_u64s hf
  obtain ⟨a2, len2, cap2, rfl⟩ := okWide_slice under59 (hval 2 59 v2 rfl rfl)
  have k2 := h2
  have lt2 : ∀ x ∈ p2, x.block < W.heap.size := by obtain ⟨m, hm⟩ := k2; exact DataW.trod_lt m _ _ _ hm
  obtain ⟨z2, s2, n2⟩ : ∃ T : Nat → Bool, CellF W a2 (fun j => .bool (T j)) len2 ∧ len2 ≤ 9223372036854775807 := by
    obtain ⟨fuel, hf⟩ := h2
    exact open_bools hf
  clear hA0 hval0
  refine (walk a0 a1 len1 cap1 z1 a2 len2 cap2 z2 w0 n1 s1 u1 n2 s2 W rfl (of_laid3 hL)).mono fun e W' ⟨he, hg⟩ => ?_
  subst he
  exact ⟨_, rfl, _, _, _, [], _, [], hW', (trodAll_cons_mk (shut_bool Tryd.underlying4 _) trodAll_mk0), (trodAll_cons_mk (shut_int Tryd.underlying25 w0) (trodAll_cons_mk (Below.trod laidOut (by kernel_rfl) (of_decide_eq_true (by kernel_rfl)) k1 hg lt1) (trodAll_cons_mk (Below.trod laidOut (by kernel_rfl) (of_decide_eq_true (by kernel_rfl)) k2 hg lt2) trodAll_mk0))), rfl, hg.frame _, fun h => by cases h⟩

theorem over : Rows.modelCountsRow.holds Tryd.pinned (OpenSpec.ofChange Rows.modelCountsSpec) :=
  OpenClaim.holds_of_wide 7 Tryd.f7 rfl rfl rfl rfl rfl rfl rfl ⟨rfl, rfl, rfl, rfl, rfl⟩ rfl rfl rfl rfl rfl (by kernel_rfl) Tryd.func7 (by kernel_rfl)
    (of_decide_eq_true (by kernel_rfl)) (by unfold Func.isWrapper; first | (rw [if_pos (by decide +kernel)]; kernel_rfl) | (rw [if_neg (by decide +kernel)]; exact ⟨rfl, rfl⟩))
    (fun os started H enc _ => lifted os started H enc)

/- The card: the listed table is tied to the program's text. -/
theorem card : Claim7.holds Tryd.pinned (.plain (OpenSpec.ofChange Rows.modelCountsSpec)) Rows.modelCountsCard :=
  Claim7.holds_tied_plain_at .later [] [.data, .data, .data] true (true, "5fbd9d99f3d36ce59a6c0eb648524286286ca4a592e5bc0fbcf03847be6cbd31") true
    over (fun _ h => by cases h) (by kernel_rfl) (fun _ h => by cases h) modelCounts_row_tie rfl ⟨rfl, rfl⟩ (by kernel_rfl) rfl
    (fun f fn hf hfn => by
      obtain rfl : f = 7 := Option.some.inj ((show Tryd.prog.funcNamed "depot/depotlaw15.ModelCounts" = some 7 by kernel_rfl).symm.trans hf) |>.symm
      obtain rfl : fn = Tryd.f7 := (Option.some.inj (Tryd.func7.symm.trans hfn)).symm
      exact ⟨by kernel_rfl, fun j t ht => by
        rw [Tryd.params7] at ht
        have hm : t ∈ ([25, 58, 59] : List TypeId) := by simpa using Array.mem_of_getElem? ht
        have hall : (([25, 58, 59] : List TypeId).all fun u => !Tryd.prog.wantsStandIn u) = true := by kernel_rfl
        exact (show Tryd.prog.wantsStandIn t = false by simpa using List.all_eq_true.1 hall t hm)⟩)
    (by kernel_rfl)
end Go.Proofs.YtpkmfckifnomeaaDoor.modelCounts
namespace Go.Proofs.YtpkmfckifnomeaaDoor
theorem modelCounts_holds : Rows.ModelCountsCardSaid := modelCounts.card
#print axioms modelCounts_holds
end Go.Proofs.YtpkmfckifnomeaaDoor
