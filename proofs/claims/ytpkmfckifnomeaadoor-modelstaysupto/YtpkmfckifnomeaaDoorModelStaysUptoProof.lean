/-
  Proved: the law ModelStays returns true: what was stored is told, with its flags, whatever is done to other keys; deleted, or over, or forgotten, or flushed it is not. Where what it reads is together of bulk at most 1048576 (the second form), and where the three listed tables of the library read as it lays them (the tied card says so); no other condition; the arguments read as before.
-/
import Derived.Test.YtpkmfckifnomeaaDoorRows
import Derived.Test.YtpkmfckifnomeaaDoorCards
import Derived.Test.YtpkmfckifnomeaaDoorTie
import Derived.Test.YtpkmfckifnomeaaDoorLaid3
import Derived.Test.YtpkmfckifnomeaaDoorSt
import Derived.ChangeOld
import Derived.Below
import Derived.WalkKit
import Derived.ProofKit
import Derived.OpenShut
import Derived.ShutString
import Derived.LaidMore
import Derived.Stop.Joined
import Derived.SevenTiedAt
import Derived.Deep.DeepHandedRow
import Derived.Lib.LaidTab
namespace Go.Proofs.YtpkmfckifnomeaaDoor.modelStays
open Go.ChangeShapes Go.WideShapes Go.ChangeAt Go.RowKit
open Go.ChangeMaps (open_string shut_string)
set_option linter.unusedVariables false

theorem own : ownKnob Tryd.prog.godebug = none := by kernel_rfl

/- The walk: the law returns true, and nothing that was there has turned. -/
theorem walk (a0 a1 : ByteArray) (a2 a3 : Int) (a4 : Option Addr) (cap4 : Nat) (z4 : List Ak) (a5 : Int) (w0 : a0.size ≤ 1048576) (w1 : a1.size ≤ 1048576) (w2 : (Lit.int .u32 a2).wf = true) (w3 : (Lit.int .i64 a3).wf = true) (n4 : z4.length ≤ 9223372036854775807) (b4 : ∀ k ∈ z4, ksum k.ks + k.r.data.size + k.key.size ≤ 1048576) {W : World} (s4 : AksF W a4 z4) (w5 : (Lit.int .i64 a5).wf = true) (w : World) (hw : w = W) (ht : Tb w) :
    Calls Tryd.prog 6 #[.string a0, .string a1, .int .u32 a2, .int .i64 a3, .slice a4 z4.length cap4, .int .i64 a5] w fun e w' => e = .returned (.bool true) ∧ Below w.heap.size w w' := by
  subst hw
  have h2 : 0 ≤ a2 ∧ a2 < 4294967296 := by
    have h3 : IntKind.u32.min ≤ a2 ∧ a2 ≤ IntKind.u32.max := by simpa [Lit.wf] using w2
    have m1 : IntKind.u32.min = 0 := by decide
    have m2 : IntKind.u32.max = 4294967295 := by decide
    omega
  exact stays_walk a0 a1 a2 a3 a5 h2 a4 cap4 z4 (by omega) (by omega) n4 b4 w s4 ht

/- The step to the row, where what is read is of a bulk that is bounded. -/
theorem reads (os : Os) {H : Type} (enc : TypeId × Value → H) : ∃ places, DataW.whole enc Tryd.prog ((World.doorLaid Tryd.prog 400 os).forCall (fun _ _ => 0) ⟨#[], #[.string ByteArray.empty, .string ByteArray.empty, .int .u32 0, .int .i64 0, .slice none 0 0, .int .i64 0], []⟩).memory Tryd.f6.params.toList Rows.modelStaysSpec.vars false (#[.string ByteArray.empty, .string ByteArray.empty, .int .u32 0, .int .i64 0, .slice none 0 0, .int .i64 0] : Array Value).toList 8 = some ([.lit (.string []), .lit (.string []), .lit (.int .u32 0), .lit (.int .i64 0), .nil, .lit (.int .i64 0)], [], places) :=
  ⟨[], by kernel_rfl⟩
set_option maxRecDepth 100000 in
theorem lifted (os : Os) (started : os.Started) (H : Type) (enc : TypeId × Value → H) (F : Stop.Interp) :
    ReturnsInHanded {} Tryd.checked os 6 .any ((Rows.OpenSpec.upto Rows.modelStaysSpec).preRow enc Tryd.prog Tryd.f6 Rows.modelStaysUptoRow.domain false Rows.modelStaysUptoRow.laid) (((Rows.OpenSpec.upto Rows.modelStaysSpec).at F).post enc Tryd.prog Tryd.f6 false true false false) := by
  obtain ⟨places, hx⟩ := reads os enc
  refine returnsInHanded_of_row (C := Tryd.checked) (s := (Rows.OpenSpec.upto Rows.modelStaysSpec)) own started (by kernel_rfl) Tryd.func6
    (witness_row_at (enc := enc) (C := Tryd.checked) false (World.doorLaid Tryd.prog 400 os) #[.string ByteArray.empty, .string ByteArray.empty, .int .u32 0, .int .i64 0, .slice none 0 0, .int .i64 0] rfl (by kernel_rfl) (by kernel_rfl) (by kernel_rfl)
      (OpenSpec.preRow_of_cond 8 hx (by kernel_rfl) (fun k hk => by cases hk; kernel_rfl) (by kernel_rfl) (door_met3 os _))) ?_
  intro W base args ds gs before hval0 hW _ hcond hsz0 hL _ _
  have hval : ∀ (j : Nat) t v, Tryd.f6.params[j]? = some t → args[j]? = some v → Value.okWide Tryd.prog W .any base t v := hval0
  have hW' := hW
  obtain ⟨p, q, hA0, hV, rfl, hfz, hnd⟩ := hW
  have hA : DataW.TrodAll enc Tryd.prog W 0 (fun _ => true) true Tryd.f6.params.toList args.toList ds p := hA0
  rw [Tryd.params6] at hA hval
  obtain ⟨v0, vs0, d0, ds0, p0, q0, hargs, rfl, rfl, h0, r0⟩ := trodAll_cons hA
  obtain ⟨v1, vs1, d1, ds1, p1, q1, rfl, rfl, rfl, h1, r1⟩ := trodAll_cons r0
  obtain ⟨v2, vs2, d2, ds2, p2, q2, rfl, rfl, rfl, h2, r2⟩ := trodAll_cons r1
  obtain ⟨v3, vs3, d3, ds3, p3, q3, rfl, rfl, rfl, h3, r3⟩ := trodAll_cons r2
  obtain ⟨v4, vs4, d4, ds4, p4, q4, rfl, rfl, rfl, h4, r4⟩ := trodAll_cons r3
  obtain ⟨v5, vs5, d5, ds5, p5, q5, rfl, rfl, rfl, h5, r5⟩ := trodAll_cons r4
  obtain ⟨rfl, rfl, rfl⟩ := trodAll_nil r5
  obtain rfl : args = #[v0, v1, v2, v3, v4, v5] := by cases args; simp_all
  obtain ⟨rfl, rfl⟩ := trodVars_none hV
  have hB : Rows.uptoBulkAll ([d0, d1, d2, d3, d4, d5] ++ []) ≤ 1048576 := of_decide_eq_true (hcond _ rfl)
  obtain ⟨a0, rfl, rfl, rfl, w0⟩ := open_string Tryd.underlying9 (hval 0 9 v0 rfl rfl) h0
  have y0 : a0.size ≤ 1048576 := by
    have h := Nat.le_trans (bulk_part (d := DataW.lit (H := H) (.string a0.data.toList)) (by simp)) hB
    rw [bulk_str] at h; omega
  obtain ⟨a1, rfl, rfl, rfl, w1⟩ := open_string Tryd.underlying9 (hval 1 9 v1 rfl rfl) h1
  have y1 : a1.size ≤ 1048576 := by
    have h := Nat.le_trans (bulk_part (d := DataW.lit (H := H) (.string a1.data.toList)) (by simp)) hB
    rw [bulk_str] at h; omega
  obtain ⟨a2, rfl, rfl, rfl, w2⟩ := open_int Tryd.underlying55 (hval 2 55 v2 rfl rfl) h2
  obtain ⟨a3, rfl, rfl, rfl, w3⟩ := open_int Tryd.underlying3 (hval 3 3 v3 rfl rfl) h3
  obtain ⟨a4, len4, cap4, rfl⟩ := okWide_slice under37 (hval 4 37 v4 rfl rfl)
  have k4 := h4
  have lt4 : ∀ x ∈ p4, x.block < W.heap.size := by obtain ⟨m, hm⟩ := k4; exact DataW.trod_lt m _ _ _ hm
  obtain ⟨z4, e4, s4, n4, b4⟩ : ∃ z : List Ak, z.length = len4 ∧ AksF W a4 z ∧ z.length ≤ 9223372036854775807 ∧ ∀ k ∈ z, ksum k.ks + k.r.data.size + k.key.size ≤ 1048576 := by
    obtain ⟨fuel, hf⟩ := h4
    obtain ⟨a', cap', l, hc, hAk, hn, hb⟩ := open_asks hf
    simp [Value.cells] at hc
    obtain ⟨rfl, rfl, rfl⟩ := hc
    exact ⟨l, rfl, hAk, hn, fun k hk => Nat.le_trans (hb k hk) (Nat.le_trans (bulk_part (by simp)) hB)⟩
  subst e4
  obtain ⟨a5, rfl, rfl, rfl, w5⟩ := open_int Tryd.underlying3 (hval 5 3 v5 rfl rfl) h5
  clear hA0 hval0
  refine (walk a0 a1 a2 a3 a4 cap4 z4 a5 y0 y1 w2 w3 n4 b4 s4 w5 W rfl (of_laid3 hL)).mono fun e W' ⟨he, hg⟩ => ?_
  subst he
  exact ⟨_, rfl, _, _, _, [], _, [], hW', (trodAll_cons_mk (shut_bool Tryd.underlying4 _) trodAll_mk0), (trodAll_cons_mk (shut_string Tryd.underlying9 w0) (trodAll_cons_mk (shut_string Tryd.underlying9 w1) (trodAll_cons_mk (shut_int Tryd.underlying55 w2) (trodAll_cons_mk (shut_int Tryd.underlying3 w3) (trodAll_cons_mk (Below.trod laidOut (by kernel_rfl) (of_decide_eq_true (by kernel_rfl)) k4 hg lt4) (trodAll_cons_mk (shut_int Tryd.underlying3 w5) trodAll_mk0)))))), rfl, hg.frame _, fun h => by cases h⟩

theorem over : Rows.modelStaysUptoRow.holds Tryd.pinned (Rows.OpenSpec.upto Rows.modelStaysSpec) :=
  OpenClaim.holds_of_cond 6 Tryd.f6 rfl rfl rfl rfl rfl rfl rfl ⟨rfl, rfl, rfl, rfl, rfl⟩ rfl rfl rfl rfl rfl (by kernel_rfl) Tryd.func6 (by kernel_rfl)
    (of_decide_eq_true (by kernel_rfl)) (by unfold Func.isWrapper; first | (rw [if_pos (by decide +kernel)]; kernel_rfl) | (rw [if_neg (by decide +kernel)]; exact ⟨rfl, rfl⟩))
    (fun os started H enc _ F => by rw [OpenClaim.pre_eq_preRow]; exact lifted os started H enc F)

/- The card: the listed table is tied to the program's text. -/
theorem card : Claim7.holds Tryd.pinned (.plain (Rows.OpenSpec.upto Rows.modelStaysSpec)) Rows.modelStaysUptoCard :=
  Claim7.holds_tied_plain_at .later [] [.data, .data, .data] true (true, "5fbd9d99f3d36ce59a6c0eb648524286286ca4a592e5bc0fbcf03847be6cbd31") true
    over (fun _ h => by cases h) (by kernel_rfl) (fun _ h => by cases h) modelStaysUpto_row_tie rfl ⟨rfl, rfl⟩ (by kernel_rfl) rfl
    (fun f fn hf hfn => by
      obtain rfl : f = 6 := Option.some.inj ((show Tryd.prog.funcNamed "depot/depotlaw15.ModelStays" = some 6 by kernel_rfl).symm.trans hf) |>.symm
      obtain rfl : fn = Tryd.f6 := (Option.some.inj (Tryd.func6.symm.trans hfn)).symm
      exact ⟨by kernel_rfl, fun j t ht => by
        rw [Tryd.params6] at ht
        have hm : t ∈ ([9, 9, 55, 3, 37, 3] : List TypeId) := by simpa using Array.mem_of_getElem? ht
        have hall : (([9, 9, 55, 3, 37, 3] : List TypeId).all fun u => !Tryd.prog.wantsStandIn u) = true := by kernel_rfl
        exact (show Tryd.prog.wantsStandIn t = false by simpa using List.all_eq_true.1 hall t hm)⟩)
    (by kernel_rfl)
end Go.Proofs.YtpkmfckifnomeaaDoor.modelStays
namespace Go.Proofs.YtpkmfckifnomeaaDoor
theorem modelStaysUpto_holds : Rows.ModelStaysUptoCardSaid := modelStays.card
#print axioms modelStaysUpto_holds
end Go.Proofs.YtpkmfckifnomeaaDoor
