/-
  THE LINES OF THE COUNTS: stats of the program.
-/
import Derived.Test.YtjlcnfafjblmkaaDoorVals
namespace Go.Proofs.YtjlcnfafjblmkaaDoor
open Go.RowKit
open Go.Lib (TabIs pow10Tab OthersKept)

/-- The names lie in a block. -/
def NmAt (w : World) (A : Nat) : Prop := w.heap[A]? = some (.cells #[.string ⟨#[115, 108, 111, 116, 115, 95, 117, 112]⟩, .string ⟨#[99, 109, 100, 95, 103, 101, 116]⟩, .string ⟨#[99, 109, 100, 95, 115, 101, 116]⟩, .string ⟨#[103, 101, 116, 95, 104, 105, 116, 115]⟩] 55)
theorem NmAt.lt {w : World} {A : Nat} (h : NmAt w A) : A < w.heap.size := (Array.getElem?_eq_some_iff.1 h).1
theorem NmAt.up {w w' : World} {A : Nat} (h : NmAt w A) (hb : Below w.heap.size w w') : NmAt w' A := (hb.block A h.lt).trans h
theorem NmAt.kept {w w' : World} {A b : Nat} (h : NmAt w A) (hn : A ≠ b) (hk : OthersKept 5 (some b) w w') : NmAt w' A :=
  hk A _ h (fun e => hn (Option.some.inj e)) (fun c fz e => by injection e with _ e _; exact absurd e (by decide))
theorem NmAt.cell {w : World} {A : Nat} (h : NmAt w A) (i : Nat) (hi : i < 4) : w.cell? ⟨A, i, none⟩ = some (.string (S (nm i))) := by
  unfold NmAt at h
  unfold World.cell?
  rw [h]
  rcases i with _ | _ | _ | _ | i
  · rfl
  · rfl
  · rfl
  · rfl
  · omega
theorem nm_len (i : Nat) : (nm i).length ≤ 8 := by rcases i with _ | _ | _ | i <;> simp [nm]
theorem stl_lens (i : Nat) {n : Int} (h : n ≤ 9223372036854775807) : Lib.lens [[83, 84, 65, 84], nm i, dg n] + 3 ≤ 100 := by
  have := nm_len i
  have := (dg_len h).2
  simp [Lib.lens]
  omega
theorem stl_len (i : Nat) {n : Int} (h : n ≤ 9223372036854775807) : (stl i n).length ≤ 100 := by
  have h1 := stl_lens i h
  have h2 := ln_len [[83, 84, 65, 84], nm i, dg n]
  have := nm_len i
  have := (dg_len h).2
  unfold stl
  simp [Lib.lens] at h1 h2
  omega
theorem sts_len (f : Nat → Int) (h : ∀ i, f i ≤ 9223372036854775807) : ∀ n, (sts f n).length ≤ 100 * n
  | 0 => by simp [sts]
  | n + 1 => by
    have := sts_len f h n
    have := stl_len n (h n)
    simp [sts]
    omega
/-- A count out of the four. -/
theorem four_at (a b c d : Int) (i : Nat) (hi : i < 4) (w : World) : (Instr.index 26 (.agg #[.int .i64 a, .int .i64 b, .int .i64 c, .int .i64 d]) (.int .i64 (i : Int))).run Tryd.prog w = .ok (.int .i64 (four a b c d i)) w := by
  rcases i with _ | _ | _ | _ | i
  · rfl
  · rfl
  · rfl
  · rfl
  · omega
theorem IsB.new2 (w : World) {b0 : Nat} (h : b0 ≤ w.heap.size) : IsB (w.alloc (.cells #[.pointer none, .slice none 0 0] 47)) b0 w.heap.size [] :=
  .inl ⟨h, .slice none 0 0, heap_alloc_new w _, World.ownsRowF_of (World.ownsRow_nil _ _ _ _), by simp [Value.ownBlock]⟩
set_option maxRecDepth 100000 in
set_option maxHeartbeats 2000000 in
theorem stats_any (x0 x1 x2 x3 : Int) (h0 : x0 ≤ 9223372036854775807) (h1 : x1 ≤ 9223372036854775807) (h2 : x2 ≤ 9223372036854775807) (h3 : x3 ≤ 9223372036854775807) (w : World) (ht : Tb w) :
    Calls Tryd.prog 14 #[.agg #[.int .i64 x0, .int .i64 x1, .int .i64 x2, .int .i64 x3]] w fun e w' => e = .returned (.string (S (stats (four x0 x1 x2 x3)))) ∧ Below w.heap.size w w' := by
  have HT := Lib.hid ht
  have HX : Hid (∀ i, four x0 x1 x2 x3 i ≤ 9223372036854775807) := Lib.hid (fun i => by rcases i with _ | _ | _ | i <;> assumption)
  have FA := four_at x0 x1 x2 x3
  clear ht h0 h1 h2 h3
  go_enter Tryd.func14, Tryd.ntmps14
  go_wp2_with fail
  have HV : Hid (Vw w (((w.alloc (.cells #[.int .i64 x0, .int .i64 x1, .int .i64 x2, .int .i64 x3] 26)).alloc (.cells #[.string ⟨#[115, 108, 111, 116, 115, 95, 117, 112]⟩, .string ⟨#[99, 109, 100, 95, 103, 101, 116]⟩, .string ⟨#[99, 109, 100, 95, 115, 101, 116]⟩, .string ⟨#[103, 101, 116, 95, 104, 105, 116, 115]⟩] 55)).alloc (.cells #[.pointer none, .slice none 0 0] 47)) (w.heap.size + 1 + 1) []) := Lib.hid ⟨by
    have h := IsB.new2 ((w.alloc (.cells #[.int .i64 x0, .int .i64 x1, .int .i64 x2, .int .i64 x3] 26)).alloc (.cells #[.string ⟨#[115, 108, 111, 116, 115, 95, 117, 112]⟩, .string ⟨#[99, 109, 100, 95, 103, 101, 116]⟩, .string ⟨#[99, 109, 100, 95, 115, 101, 116]⟩, .string ⟨#[103, 101, 116, 95, 104, 105, 116, 115]⟩] 55)) (b0 := w.heap.size) (by simp; omega)
    simpa using h, (below_alloc _ _).trans (((below_alloc _ _).mono (by simp)).trans ((below_alloc _ _).mono (by simp; omega)))⟩
  have HA : Hid (NmAt (((w.alloc (.cells #[.int .i64 x0, .int .i64 x1, .int .i64 x2, .int .i64 x3] 26)).alloc (.cells #[.string ⟨#[115, 108, 111, 116, 115, 95, 117, 112]⟩, .string ⟨#[99, 109, 100, 95, 103, 101, 116]⟩, .string ⟨#[99, 109, 100, 95, 115, 101, 116]⟩, .string ⟨#[103, 101, 116, 95, 104, 105, 116, 115]⟩] 55)).alloc (.cells #[.pointer none, .slice none 0 0] 47)) (w.heap.size + 1)) := Lib.hid (by
    have h : NmAt ((w.alloc (.cells #[.int .i64 x0, .int .i64 x1, .int .i64 x2, .int .i64 x3] 26)).alloc (.cells #[.string ⟨#[115, 108, 111, 116, 115, 95, 117, 112]⟩, .string ⟨#[99, 109, 100, 95, 103, 101, 116]⟩, .string ⟨#[99, 109, 100, 95, 115, 101, 116]⟩, .string ⟨#[103, 101, 116, 95, 104, 105, 116, 115]⟩] 55)) (w.alloc (.cells #[.int .i64 x0, .int .i64 x1, .int .i64 x2, .int .i64 x3] 26)).heap.size := heap_alloc_new _ _
    have h2 := h.up (below_alloc _ (.cells #[.pointer none, .slice none 0 0] 47))
    simpa using h2)
  obtain ⟨W1, hW1⟩ : ∃ W, ((w.alloc (.cells #[.int .i64 x0, .int .i64 x1, .int .i64 x2, .int .i64 x3] 26)).alloc (.cells #[.string ⟨#[115, 108, 111, 116, 115, 95, 117, 112]⟩, .string ⟨#[99, 109, 100, 95, 103, 101, 116]⟩, .string ⟨#[99, 109, 100, 95, 115, 101, 116]⟩, .string ⟨#[103, 101, 116, 95, 104, 105, 116, 115]⟩] 55)).alloc (.cells #[.pointer none, .slice none 0 0] 47) = W := ⟨_, rfl⟩
  obtain ⟨b, A, hb, hA, HNE⟩ : ∃ b A, w.heap.size + 1 + 1 = b ∧ w.heap.size + 1 = A ∧ Hid (A ≠ b) := ⟨_, _, rfl, rfl, Lib.hid (by omega)⟩
  rw [hW1, hb] at HV
  rw [hW1, hA] at HA
  rw [hW1, hb, hA]
  clear hW1 hb hA
  go_loopw [9] (fun iv wr => ∃ i : Nat, i ≤ 4 ∧ iv = .int .i64 (i : Int) ∧ Hid (Vw w wr b (sts (four x0 x1 x2 x3) i)) ∧ Hid (NmAt wr A)) (fun iv _ => 4 - (intOf iv).toNat)
  case atStart => exact ⟨0, by omega, rfl, HV, HA⟩
  case round =>
    clear HV HA
    obtain ⟨i, hi, rfl, HV, HA⟩ := hrel
    have hvl : (sts (four x0 x1 x2 x3) i).length ≤ 400 := by
      have h1 := sts_len (four x0 x1 x2 x3) HX.out i
      omega
    by_cases hlt : i < 4
    · have h1 : (i : Int) < 4 := by omega
      have ix := FA i hlt
      obtain ⟨x, hx⟩ : ∃ x, four x0 x1 x2 x3 i = x := ⟨_, rfl⟩
      have zx : x ≤ 9223372036854775807 := by rw [← hx]; exact HX.out i
      rw [hx] at ix
      have HXi := Lib.hid hx
      clear hx FA
      obtain ⟨nam, hnam⟩ : ∃ nam, S (nm i) = nam := ⟨_, rfl⟩
      have HS : Hid (∀ X, Below wr.heap.size wr X → X.cell? ⟨A, i, none⟩ = some (.string nam)) := Lib.hid (fun X bX => by rw [← hnam]; exact (HA.out.up bX).cell i hlt)
      have HNM := Lib.hid hnam
      obtain ⟨R, hR⟩ : ∃ R, S (stl i x) = R := ⟨_, rfl⟩
      have zR : R.size ≤ 100 := by rw [← hR, S_size]; exact stl_len i zx
      have HR : Hid (S (ln ([⟨#[83, 84, 65, 84]⟩, nam, S (dg x)].map L)) = R) := Lib.hid (by rw [← hR, ← hnam]; rfl)
      have HR2 := Lib.hid hR
      have HLN : Hid (Lib.lens ([⟨#[83, 84, 65, 84]⟩, nam, S (dg x)].map L) + 3 ≤ 100000) := Lib.hid (by
        have h := stl_lens i zx
        rw [← hnam]
        exact Nat.le_trans h (by omega))
      clear hR hnam
      have BD : Hid (Below wr.heap.size wr wr.drew) := Lib.hid (below_drewN (Below.refl _ _) 1)
      have S0 := HS.out _ BD.out
      have T0 : Hid (Tb wr.drew) := Lib.hid ((HV.out.up BD.out).tab HT.out)
      go_wp2_with fail
      go_region_held3 (fun w' => w'.cell? ⟨A, i, none⟩ = some (.string nam))
        (first | with_reducible exact S0 | with_reducible exact S1 | with_reducible exact S2 | with_reducible exact S3 | with_reducible exact S4)
        (first
          | (go_at_call 16; with_reducible refine (digits_any x zx _ T0.out).mono ?_; rintro e w4 ⟨rfl, b4⟩; have B1 : Hid (Below wr.heap.size wr w4) := Lib.hid (BD.out.trans (b4.mono BD.out.size)); have S1 := HS.out _ B1.out; have B2 : Hid (Below wr.heap.size wr (w4.alloc (.cells #[.string ⟨#[83, 84, 65, 84]⟩, .string nam, .string (S (dg x))] 9))) := Lib.hid (B1.out.trans ((below_alloc _ _).mono B1.out.size)); have S2 := HS.out _ B2.out; have HW : Hid (Ws (w4.alloc (.cells #[.string ⟨#[83, 84, 65, 84]⟩, .string nam, .string (S (dg x))] 9)) w4.heap.size 0 [⟨#[83, 84, 65, 84]⟩, nam, S (dg x)]) := Lib.hid (Ws.new w4 [⟨#[83, 84, 65, 84]⟩, nam, S (dg x)] _ rfl); clear b4)
          | (go_at_call 12; with_reducible refine (line_c (n := 3) (R := R) HW.out rfl (Nat.le_refl _) HLN.out HR.out).mono ?_; rintro e w5 ⟨rfl, b5⟩; have B3 : Hid (Below wr.heap.size wr w5) := Lib.hid (B2.out.trans (b5.mono B2.out.size)); have S3 := HS.out _ B3.out; have HV3 : Hid (Vw w w5 b (sts (four x0 x1 x2 x3) i)) := Lib.hid (HV.out.up B3.out); clear b5)
          | (go_at_call 17; with_reducible refine (write_any HV3.out.bld R (by omega)).mono ?_; rintro e w6 ⟨rfl, I6, B6, K6⟩; have HA6 : Hid (NmAt w6 A) := Lib.hid ((HA.out.up B3.out).kept HNE.out K6); have HV6 : Hid (Vw w w6 b (sts (four x0 x1 x2 x3) i ++ L R)) := Lib.hid (HV3.out.write I6 B6); have S4 : w6.cell? ⟨A, i, none⟩ = some (.string nam) := by (rw [← HNM.out]; exact HA6.out.cell i hlt)))
      clear S0 S1 S2 S3 S4 HV3 B1 B2 B3 HW HS HA HV BD T0 K6 I6 B6
      go_wp2_with fail
      exact ⟨⟨i + 1, by omega, by go_num, Lib.hid (by
        have h := HV6.out
        rw [← HR2.out, L_S, ← HXi.out] at h
        exact h), HA6⟩, by simp [intOf]; omega⟩
    · have h1 : decide ((i : Int) < 4) = false := decide_eq_false (by omega)
      obtain rfl : i = 4 := by omega
      go_wp2_with fail
      refine (line_c (n := 1) (c := 1) (R := ⟨#[69, 78, 68, 13, 10]⟩) (Ws.new wr [⟨#[69, 78, 68]⟩] _ rfl) rfl (by omega) (by decide) (by decide)).mono ?_
      rintro e w2 ⟨rfl, b2⟩
      have HV2 : Hid (Vw w w2 b (sts (four x0 x1 x2 x3) 4)) := Lib.hid ((HV.out.up (below_alloc _ _)).up b2)
      clear HV b2
      go_wp2_with fail
      refine (write_any HV2.out.bld _ (by show _ + 5 ≤ _; omega)).mono ?_
      rintro e w3 ⟨rfl, I3, B3, _⟩
      have HV3 : Hid (Vw w w3 b (stats (four x0 x1 x2 x3))) := Lib.hid (HV2.out.write I3 B3)
      clear HV2 I3 B3
      go_wp2_with fail
      refine (string_any HV3.out.bld).mono ?_
      rintro e w4 ⟨rfl, b4⟩
      go_wp2_with fail
      go_ret
      exact ⟨rfl, HV3.out.below.trans b4⟩
end Go.Proofs.YtjlcnfafjblmkaaDoor
