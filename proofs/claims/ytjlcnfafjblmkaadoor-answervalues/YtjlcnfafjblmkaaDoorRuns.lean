/-
  ANSWERRUNS walked: the chapter's runs.
-/
import Derived.Test.YtjlcnfafjblmkaaDoorText
namespace Go.Proofs.YtjlcnfafjblmkaaDoor
open Go.RowKit
open Go.Lib (TabIs pow10Tab OthersKept)

theorem dec1 {u : Nat} (h : u < 10) : Lib.decDigits u = [UInt8.ofNat (48 + u)] := by rw [Lib.decDigits, dif_pos h]
def fa : Fd := ⟨⟨#[97]⟩, 5, ⟨#[120, 121]⟩, 9⟩
theorem fa_ok : ∀ f ∈ [fa], FdOk f := fun f hf => by
  obtain rfl : f = fa := by simpa using hf
  exact ⟨by decide, by decide, by decide, by decide, by decide, by decide⟩
theorem run_a : S (vals true [fa]) = ⟨#[86, 65, 76, 85, 69, 32, 97, 32, 53, 32, 50, 32, 57, 13, 10, 120, 121, 13, 10, 69, 78, 68, 13, 10]⟩ := by
  have h5 : dg 5 = [53] := dec1 (u := 5) (by omega)
  have h9 : dg 9 = [57] := dec1 (u := 9) (by omega)
  have h2 : dg (fa.val.size : Int) = [50] := dec1 (u := 2) (by omega)
  have e : hd true fa = [[86, 65, 76, 85, 69], [97], [53], [50], [57]] := by
    unfold hd
    rw [h2, show fa.fl = 5 from rfl, show fa.cas = 9 from rfl, h5, h9]
    rfl
  unfold vals vls vls vl
  rw [e]
  rfl
theorem run_x : S (ln [[83, 69, 82, 86, 69, 82, 95, 69, 82, 82, 79, 82], L ⟨#[120]⟩]) = ⟨#[83, 69, 82, 86, 69, 82, 95, 69, 82, 82, 79, 82, 32, 120, 13, 10]⟩ := rfl
theorem text_a (p cap : Nat) (w : World) (hF : FdF w (some ⟨p, 0, none⟩) [fa]) (ht : Tb w) :
    Calls Tryd.prog 7 #[.agg #[.int .i64 1, .slice (some ⟨p, 0, none⟩) 1 cap, .bool true, .int .u64 0, .string ⟨#[]⟩, .int .i64 0, .int .i64 0, .int .i64 0, .int .i64 0]] w fun e w' => e = .returned (.string ⟨#[86, 65, 76, 85, 69, 32, 97, 32, 53, 32, 50, 32, 57, 13, 10, 120, 121, 13, 10, 69, 78, 68, 13, 10]⟩) ∧ Below w.heap.size w w' := by
  have h := text_1 [fa] true 0 ⟨#[]⟩ 0 0 0 0 (some ⟨p, 0, none⟩) 1 cap w rfl hF fa_ok (by omega) ht
  rw [run_a] at h
  exact h
theorem text_st (w : World) :
    Calls Tryd.prog 7 #[.agg #[.int .i64 2, .slice none 0 0, .bool false, .int .u64 0, .string ⟨#[]⟩, .int .i64 0, .int .i64 0, .int .i64 0, .int .i64 0]] w fun e w' => e = .returned (.string ⟨#[83, 84, 79, 82, 69, 68, 13, 10]⟩) ∧ Below w.heap.size w w' := text_2 false 0 ⟨#[]⟩ 0 0 0 0 none 0 0 w
theorem text_cl (w : World) :
    Calls Tryd.prog 7 #[.agg #[.int .i64 15, .slice none 0 0, .bool false, .int .u64 0, .string ⟨#[]⟩, .int .i64 0, .int .i64 0, .int .i64 0, .int .i64 0]] w fun e w' => e = .returned (.string ⟨#[]⟩) ∧ Below w.heap.size w w' := text_other 15 false 0 ⟨#[]⟩ 0 0 0 0 none 0 0 w (by decide) (by decide) (by decide) (by decide) (by decide) (by decide) (by decide) (by decide) (by decide) (by decide) (by decide) (by decide) (by decide) (by decide)
theorem text_sx (w : World) :
    Calls Tryd.prog 7 #[.agg #[.int .i64 14, .slice none 0 0, .bool false, .int .u64 0, .string ⟨#[120]⟩, .int .i64 0, .int .i64 0, .int .i64 0, .int .i64 0]] w fun e w' => e = .returned (.string ⟨#[83, 69, 82, 86, 69, 82, 95, 69, 82, 82, 79, 82, 32, 120, 13, 10]⟩) ∧ Below w.heap.size w w' := by
  have h := text_14 false 0 ⟨#[120]⟩ 0 0 0 0 none 0 0 w (by decide)
  rw [run_x] at h
  exact h
theorem fa_new (w : World) : FdF ((w.alloc (.cells #[.string ⟨#[97]⟩, .int .i64 5, .string ⟨#[120, 121]⟩, .int .i64 9] 23))) (some ⟨w.heap.size, 0, none⟩) [fa] := by
  refine .inr ⟨_, 0, rfl, by simp, fun i f hf => ?_⟩
  obtain ⟨rfl, rfl⟩ : i = 0 ∧ f = fa := by
    rcases i with _ | i
    · exact ⟨rfl, by simpa using hf.symm⟩
    · simp at hf
  simp only [World.cell?_alloc_new]
  exact ⟨rfl, rfl, rfl, rfl⟩
set_option maxRecDepth 100000 in
set_option maxHeartbeats 1000000 in
theorem runs_any (w : World) (ht : Tb w) : Calls Tryd.prog 3 #[] w fun e w' => e = .returned (.bool true) ∧ Below w.heap.size w w' := by
  have HT := Lib.hid ht
  clear ht
  go_enter Tryd.func3, Tryd.ntmps3
  go_wp2_with fail
  refine (text_a _ _ _ ((fa_new w).up (below_alloc _ _)) (tb_up HT.out (up1 (below_alloc _ _)))).mono ?_
  rintro e w2 ⟨rfl, b2⟩
  have HB2 := Lib.hid (up2 b2)
  clear b2
  go_wp2_with fail
  refine (text_st _).mono ?_
  rintro e w3 ⟨rfl, b3⟩
  have HB3 := Lib.hid (HB2.out.trans (b3.mono HB2.out.size))
  clear b3 HB2
  go_wp2_with fail
  refine (text_cl _).mono ?_
  rintro e w4 ⟨rfl, b4⟩
  have HB4 := Lib.hid (HB3.out.trans (b4.mono HB3.out.size))
  clear b4 HB3
  go_wp2_with fail
  refine (text_sx _).mono ?_
  rintro e w5 ⟨rfl, b5⟩
  have HB5 := Lib.hid (HB4.out.trans (b5.mono HB4.out.size))
  clear b5 HB4
  go_wp2_with fail
  go_ret
  exact ⟨rfl, HB5.out⟩
end Go.Proofs.YtjlcnfafjblmkaaDoor
