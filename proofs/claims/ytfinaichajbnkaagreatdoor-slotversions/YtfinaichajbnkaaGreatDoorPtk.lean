/-
  Take.
-/
import Derived.Test.YtfinaichajbnkaaGreatDoorPoc
import Derived.Test.YtfinaichajbnkaaGreatDoorPrs
namespace Go.Proofs.YtfinaichajbnkaaGreatDoor
open Go.RowKit
open Wi (F)

theorem take_adm {s : Sl} {f : F} (hm : s.may f = true) (h5 : f.kind ≠ 5) : s.take f = if (s.adm f).1 = true then (some ((s.adm f).2.onc f).1, ((s.adm f).2.onc f).2) else (none, (s.adm f).2) := by
  unfold Sl.take Sl.adm
  rw [if_neg (by simp [hm]), if_neg h5]
  by_cases h : (s.on && f.inc == s.inc && decide (s.floor ≤ f.rid)) = false
  · rw [if_pos h, if_pos h]; simp
  · rw [if_neg h, if_neg h]
    by_cases hr : f.rid < (s.low f).floor
    · rw [if_pos hr, if_neg (by simp; omega)]
    · rw [if_neg hr, if_pos (by simp; omega)]
      unfold Sl.onc
      simp only
      cases hf : (s.low f).done.find? fun a => a.rid == f.rid with
      | none => simp
      | some a => simp
theorem adm_len (s : Sl) (f : F) : (s.adm f).2.done.length ≤ s.done.length := by
  unfold Sl.adm
  split
  · exact Nat.le_refl _
  · show (s.low f).done.length ≤ _
    unfold Sl.low
    split
    · exact List.length_filter_le _ _
    · exact Nat.le_refl _
/-- What is told, as a frame. -/
def optf : Option F → F
  | none => Wi.Z
  | some a => a
theorem optv_f (r : Option F) : optv r = (optf r).v := by cases r <;> rfl
set_option maxRecDepth 100000 in
set_option maxHeartbeats 2000000 in
theorem ptake_any (X : Nat) (s : Sl) (f : F) (hn : s.done.length ≤ 90000) (w : World) (o : Nat → Nat × Nat) (h : IsPsl w o X s) :
    Calls Tryz.prog 5 #[.pointer (some ⟨X, 0, none⟩), f.v] w fun e w' => e = .returned (.tuple #[optv (s.take f).1, .bool (s.take f).1.isSome]) ∧ ∃ o', IsPsl w' o' X (s.take f).2 ∧ Fr TP o o' w w' := by
  obtain ⟨C, D, d, h⟩ := h
  have HI := hid h
  obtain ⟨W, hW⟩ : ∃ W, W = (w.alloc (.cells f.cs.toArray 28)).alloc (.cells Wi.Z.cs.toArray 28) := ⟨_, rfl⟩
  have S2 := start2 w o f
  rw [← hW] at S2
  obtain ⟨K0, R0, bW⟩ := S2
  have G0 : Fr TP o (nwl o w.heap.size) w W := nwl_fr _ o bW
  have I0 : IsPl W (nwl o w.heap.size) X s C D d := HI.out.fr (nwl_fr (fun _ => False) o bW) (fun _ _ => id)
  obtain ⟨o1, ho1⟩ : ∃ o1, o1 = nwl o w.heap.size := ⟨_, rfl⟩
  rw [← ho1] at K0 R0 G0 I0
  have HK := hid K0
  have HR := hid R0
  have HG := hid G0
  have HI0 := hid I0
  clear h HI ho1 G0 I0 R0 bW

  have RI := hid (Wi.right_any f W.drew)
  obtain ⟨i0, hi0⟩ : ∃ i0, s.id = i0 := ⟨_, rfl⟩
  have HID := hid hi0
  by_cases hrt : Wi.rt f = true
  · rw [hrt] at RI
    by_cases hs : f.slot = i0
    · by_cases h67 : f.kind = 6 ∨ f.kind = 7
      · rw [take_may (may_kind h67)]
        clear hn hi0
        obtain ⟨f0, f1, f2, f3, f4, f5, f6, f7, f8⟩ := f
        have vf : (⟨f0, f1, f2, f3, f4, f5, f6, f7, f8⟩ : F).v = .agg #[.int .i64 f0, .int .i64 f1, .int .i64 f2, .int .i64 f3, .int .i64 f4, .int .i64 f5, .string f6, .int .i64 f7, .string f8] := rfl
        rw [vf]
        have HF : Hid (W = (w.alloc (.cells #[.int .i64 f0, .int .i64 f1, .int .i64 f2, .int .i64 f3, .int .i64 f4, .int .i64 f5, .string f6, .int .i64 f7, .string f8] 28)).alloc (.cells #[.int .i64 0, .int .i64 0, .int .i64 0, .int .i64 0, .int .i64 0, .int .i64 0, .string ⟨#[]⟩, .int .i64 0, .string ⟨#[]⟩] 28)) := hid hW
        obtain ⟨q0, q1, q2, q3, q4, q5, q6, q7, q8⟩ := K0.nine
        clear vf hW K0

        replace RI : Hid (Calls Tryz.prog 11 #[.agg #[.int .i64 f0, .int .i64 f1, .int .i64 f2, .int .i64 f3, .int .i64 f4, .int .i64 f5, .string f6, .int .i64 f7, .string f8]] W.drew fun e w' => e = .returned (.bool true) ∧ Below W.drew.heap.size W.drew w') := RI
        replace hs : f1 = i0 := hs
        have tn : (f1 != i0) = false := by simp [hs]
        have H67 : Hid (f0 = 6 ∨ f0 = 7) := hid h67
        clear hs hrt h67
        have SQ : Hid (∀ V, Below W.heap.size W V → (V.cell? ⟨X, 0, none⟩ = some (.int .i64 i0) ∧ V.cell? ⟨w.heap.size, 0, none⟩ = some (.int .i64 f0) ∧ V.cell? ⟨w.heap.size, 1, none⟩ = some (.int .i64 f1) ∧ V.cell? ⟨w.heap.size, 2, none⟩ = some (.int .i64 f2) ∧ V.cell? ⟨w.heap.size, 3, none⟩ = some (.int .i64 f3) ∧ V.cell? ⟨w.heap.size, 4, none⟩ = some (.int .i64 f4) ∧ V.cell? ⟨w.heap.size, 5, none⟩ = some (.int .i64 f5) ∧ V.cell? ⟨w.heap.size, 6, none⟩ = some (.string f6) ∧ V.cell? ⟨w.heap.size, 7, none⟩ = some (.int .i64 f7) ∧ V.cell? ⟨w.heap.size, 8, none⟩ = some (.string f8))) := hid (fun V b => ⟨(by have := (HI0.out.below b).c.c0; rw [HID.out] at this; exact this), (HK.out.below b).nine⟩)
        have HBD : Hid (Below W.heap.size W W.drew) := hid (below_drewN (Below.refl _ W) 1)
        have S0 := SQ.out _ HBD.out

        go_enter Tryz.func5, Tryz.ntmps5
        go_wp2_with fail
        rw [← HF.out]

        go_region_held3 (fun V => V.cell? ⟨X, 0, none⟩ = some (.int .i64 i0) ∧ V.cell? ⟨w.heap.size, 0, none⟩ = some (.int .i64 f0) ∧ V.cell? ⟨w.heap.size, 1, none⟩ = some (.int .i64 f1) ∧ V.cell? ⟨w.heap.size, 2, none⟩ = some (.int .i64 f2) ∧ V.cell? ⟨w.heap.size, 3, none⟩ = some (.int .i64 f3) ∧ V.cell? ⟨w.heap.size, 4, none⟩ = some (.int .i64 f4) ∧ V.cell? ⟨w.heap.size, 5, none⟩ = some (.int .i64 f5) ∧ V.cell? ⟨w.heap.size, 6, none⟩ = some (.string f6) ∧ V.cell? ⟨w.heap.size, 7, none⟩ = some (.int .i64 f7) ∧ V.cell? ⟨w.heap.size, 8, none⟩ = some (.string f8))
          (first | with_reducible exact S0 | with_reducible exact S1)
          (first | (go_at_call 11; (with_reducible refine RI.out.mono ?_); rintro e w1 ⟨rfl, b1⟩; have B1 := hid (HBD.out.trans (b1.mono HBD.out.size)); have S1 := SQ.out _ B1.out; clear b1))

        rcases H67.out with e6 | e7
        · subst e6
          have y0 := S1.2.1
          have R1 := HR.out.below B1.out
          have I1 : IsPsl w1 o1 X s := ⟨C, D, d, HI0.out.below B1.out⟩
          have G1 := HG.out.trans (Fr.ofBelow TP o1 B1.out)

          have HE := hid (RB9.fin R1 I1 G1 (by omega) Wi.Z)
          obtain ⟨A, hA⟩ : ∃ A, A = (Wi.Z).cs := ⟨_, rfl⟩
          have HA := hid hA
          have HLA : Hid (A.length = 9) := hid (by rw [hA]; rfl)
          have HOA : Hid (∀ u ∈ A, u.oneCell' = true) := hid (by rw [hA]; exact fz_ones _)
          rw [← hA] at HE
          have HE2 := hid HE.out.1
          have HRG := hid HE.out.2.1
          have HFN := hid HE.out.2.2
          clear HE hA
          have HAL : Hid (A = [.int .i64 0, .int .i64 0, .int .i64 0, .int .i64 0, .int .i64 0, .int .i64 0, .string ⟨#[]⟩, .int .i64 0, .string ⟨#[]⟩]) := hid (by rw [HA.out]; rfl)
          go_wp2_with ((with_reducible show wpList _ _ _ (Oper.mk none (Op.store 28 (.tmp 4) _) _ _ _ _ :: _) _ _); refine wpList_store_mid (by rfl) 28 (.tmp 4) (.tmp 24) (by rfl) (w.heap.size + 1) 0 A.toArray (by rfl) (by rw [HAL.out]; rfl) HE2.out (by rw [List.size_toArray, HLA.out]; kernel_rfl) (all_oneCell_toArray HOA.out) ?_; rw [show A.toArray.toList = A from rfl])
          refine bodyPost_ret (v := .tuple #[.agg A.toArray, .bool false]) (by simp [results, Tryz.results5]; exact res2z (loadz HRG.out HLA.out)) rfl ?_
          exact ⟨by rw [HA.out]; rfl, o1, HFN.out⟩

        · subst e7
          have y0 := S1.2.1
          have R1 := HR.out.below B1.out
          have I1 : IsPsl w1 o1 X s := ⟨C, D, d, HI0.out.below B1.out⟩
          have G1 := HG.out.trans (Fr.ofBelow TP o1 B1.out)

          have HE := hid (RB9.fin R1 I1 G1 (by omega) Wi.Z)
          obtain ⟨A, hA⟩ : ∃ A, A = (Wi.Z).cs := ⟨_, rfl⟩
          have HA := hid hA
          have HLA : Hid (A.length = 9) := hid (by rw [hA]; rfl)
          have HOA : Hid (∀ u ∈ A, u.oneCell' = true) := hid (by rw [hA]; exact fz_ones _)
          rw [← hA] at HE
          have HE2 := hid HE.out.1
          have HRG := hid HE.out.2.1
          have HFN := hid HE.out.2.2
          clear HE hA
          have HAL : Hid (A = [.int .i64 0, .int .i64 0, .int .i64 0, .int .i64 0, .int .i64 0, .int .i64 0, .string ⟨#[]⟩, .int .i64 0, .string ⟨#[]⟩]) := hid (by rw [HA.out]; rfl)
          go_wp2_with ((with_reducible show wpList _ _ _ (Oper.mk none (Op.store 28 (.tmp 4) _) _ _ _ _ :: _) _ _); refine wpList_store_mid (by rfl) 28 (.tmp 4) (.tmp 24) (by rfl) (w.heap.size + 1) 0 A.toArray (by rfl) (by rw [HAL.out]; rfl) HE2.out (by rw [List.size_toArray, HLA.out]; kernel_rfl) (all_oneCell_toArray HOA.out) ?_; rw [show A.toArray.toList = A from rfl])
          refine bodyPost_ret (v := .tuple #[.agg A.toArray, .bool false]) (by simp [results, Tryz.results5]; exact res2z (loadz HRG.out HLA.out)) rfl ?_
          exact ⟨by rw [HA.out]; rfl, o1, HFN.out⟩

      · have hm : s.may f = true := by
          unfold Sl.may
          have h1 : f.kind ≠ 6 := fun e => h67 (.inl e)
          have h2 : f.kind ≠ 7 := fun e => h67 (.inr e)
          simp [hrt, h1, h2, hs, hi0]
        by_cases h5 : f.kind = 5
        · rw [take_reset hm h5]
          have RS := hid (fun V oo hS => preset_any X s f V oo hS)
          obtain ⟨r, hr⟩ : ∃ r, r = s.reset f := ⟨_, rfl⟩
          rw [← hr] at RS ⊢
          obtain ⟨b, hb⟩ : ∃ b, b = r.1.isSome := ⟨_, rfl⟩
          rw [← hb] at RS ⊢
          obtain ⟨a, ha⟩ : ∃ a, a = optf r.1 := ⟨_, rfl⟩
          rw [optv_f, ← ha] at RS ⊢
          clear hn hi0 hm hr hb ha h67
          obtain ⟨f0, f1, f2, f3, f4, f5, f6, f7, f8⟩ := f
          have vf : (⟨f0, f1, f2, f3, f4, f5, f6, f7, f8⟩ : F).v = .agg #[.int .i64 f0, .int .i64 f1, .int .i64 f2, .int .i64 f3, .int .i64 f4, .int .i64 f5, .string f6, .int .i64 f7, .string f8] := rfl
          rw [vf]
          have HF : Hid (W = (w.alloc (.cells #[.int .i64 f0, .int .i64 f1, .int .i64 f2, .int .i64 f3, .int .i64 f4, .int .i64 f5, .string f6, .int .i64 f7, .string f8] 28)).alloc (.cells #[.int .i64 0, .int .i64 0, .int .i64 0, .int .i64 0, .int .i64 0, .int .i64 0, .string ⟨#[]⟩, .int .i64 0, .string ⟨#[]⟩] 28)) := hid hW
          obtain ⟨q0, q1, q2, q3, q4, q5, q6, q7, q8⟩ := K0.nine
          clear vf hW K0

          replace RI : Hid (Calls Tryz.prog 11 #[.agg #[.int .i64 f0, .int .i64 f1, .int .i64 f2, .int .i64 f3, .int .i64 f4, .int .i64 f5, .string f6, .int .i64 f7, .string f8]] W.drew fun e w' => e = .returned (.bool true) ∧ Below W.drew.heap.size W.drew w') := RI
          replace RS : Hid (∀ V oo, IsPsl V oo X s → Calls Tryz.prog 12 #[.pointer (some ⟨X, 0, none⟩), .agg #[.int .i64 f0, .int .i64 f1, .int .i64 f2, .int .i64 f3, .int .i64 f4, .int .i64 f5, .string f6, .int .i64 f7, .string f8]] V fun e w' => e = .returned (.tuple #[a.v, .bool b]) ∧ ∃ o', IsPsl w' o' X r.2 ∧ Fr (· = (10, 0)) oo o' V w') := RS
          replace hs : f1 = i0 := hs
          have tn : (f1 != i0) = false := by simp [hs]
          replace h5 : f0 = 5 := h5
          have t5 : (f0 == 5) = true := by simp [h5]
          have t6 : (f0 == 6) = false := by simp [h5]
          have t7 : (f0 == 7) = false := by simp [h5]
          clear hs hrt h5
          have SQ : Hid (∀ V, Below W.heap.size W V → (V.cell? ⟨X, 0, none⟩ = some (.int .i64 i0) ∧ V.cell? ⟨w.heap.size, 0, none⟩ = some (.int .i64 f0) ∧ V.cell? ⟨w.heap.size, 1, none⟩ = some (.int .i64 f1) ∧ V.cell? ⟨w.heap.size, 2, none⟩ = some (.int .i64 f2) ∧ V.cell? ⟨w.heap.size, 3, none⟩ = some (.int .i64 f3) ∧ V.cell? ⟨w.heap.size, 4, none⟩ = some (.int .i64 f4) ∧ V.cell? ⟨w.heap.size, 5, none⟩ = some (.int .i64 f5) ∧ V.cell? ⟨w.heap.size, 6, none⟩ = some (.string f6) ∧ V.cell? ⟨w.heap.size, 7, none⟩ = some (.int .i64 f7) ∧ V.cell? ⟨w.heap.size, 8, none⟩ = some (.string f8))) := hid (fun V b => ⟨(by have := (HI0.out.below b).c.c0; rw [HID.out] at this; exact this), (HK.out.below b).nine⟩)
          have HBD : Hid (Below W.heap.size W W.drew) := hid (below_drewN (Below.refl _ W) 1)
          have S0 := SQ.out _ HBD.out

          go_enter Tryz.func5, Tryz.ntmps5
          go_wp2_with fail
          rw [← HF.out]

          go_region_held3 (fun V => V.cell? ⟨X, 0, none⟩ = some (.int .i64 i0) ∧ V.cell? ⟨w.heap.size, 0, none⟩ = some (.int .i64 f0) ∧ V.cell? ⟨w.heap.size, 1, none⟩ = some (.int .i64 f1) ∧ V.cell? ⟨w.heap.size, 2, none⟩ = some (.int .i64 f2) ∧ V.cell? ⟨w.heap.size, 3, none⟩ = some (.int .i64 f3) ∧ V.cell? ⟨w.heap.size, 4, none⟩ = some (.int .i64 f4) ∧ V.cell? ⟨w.heap.size, 5, none⟩ = some (.int .i64 f5) ∧ V.cell? ⟨w.heap.size, 6, none⟩ = some (.string f6) ∧ V.cell? ⟨w.heap.size, 7, none⟩ = some (.int .i64 f7) ∧ V.cell? ⟨w.heap.size, 8, none⟩ = some (.string f8))
            (first | with_reducible exact S0 | with_reducible exact S1)
            (first | (go_at_call 11; (with_reducible refine RI.out.mono ?_); rintro e w1 ⟨rfl, b1⟩; have B1 := hid (HBD.out.trans (b1.mono HBD.out.size)); have S1 := SQ.out _ B1.out; clear b1))

          obtain ⟨_, y0, y1, y2, y3, y4, y5, y6, y7, y8⟩ := S1
          have RSV := hid (RS.out w1 o1 ⟨C, D, d, HI0.out.below B1.out⟩)
          go_wp2_with fail
          refine RSV.out.mono ?_
          rintro e w3 ⟨rfl, o3, I3, G3⟩
          have R3 := (HR.out.below B1.out).fr G3 (fun e => by cases e)
          have GG3 := (HG.out.trans (Fr.ofBelow TP o1 B1.out)).trans (G3.mono (fun t e => by rw [e]; exact .inr rfl))
          have HE := hid (RB9.fin R3 I3 GG3 (by omega) a)
          obtain ⟨A, hA⟩ : ∃ A, A = (a).cs := ⟨_, rfl⟩
          have HA := hid hA
          have HLA : Hid (A.length = 9) := hid (by rw [hA]; rfl)
          have HOA : Hid (∀ u ∈ A, u.oneCell' = true) := hid (by rw [hA]; exact fz_ones _)
          rw [← hA] at HE
          have HE2 := hid HE.out.1
          have HRG := hid HE.out.2.1
          have HFN := hid HE.out.2.2
          clear HE hA
          rw [show a.v = .agg A.toArray by rw [HA.out]; rfl]
          go_wp2_with ((with_reducible show wpList _ _ _ (Oper.mk none (Op.store 28 (.tmp 4) _) _ _ _ _ :: _) _ _); refine wpList_store_mid (by rfl) 28 (.tmp 4) (.tmp 30) (by rfl) (w.heap.size + 1) 0 A.toArray (by rfl) (by rfl) HE2.out (by rw [List.size_toArray, HLA.out]; kernel_rfl) (all_oneCell_toArray HOA.out) ?_; rw [show A.toArray.toList = A from rfl])
          refine bodyPost_ret (v := .tuple #[.agg A.toArray, .bool b]) (by simp [results, Tryz.results5]; exact res2z (loadz HRG.out HLA.out)) rfl ?_
          exact ⟨by rw [HA.out]; rfl, o3, HFN.out⟩

        · rw [take_adm hm h5]
          have AD := hid (fun V oo hS => padmits_any X s f (by omega) V oo hS)
          obtain ⟨r, hr⟩ : ∃ r, r = s.adm f := ⟨_, rfl⟩
          have hl : r.2.done.length ≤ 90000 := by rw [hr]; exact Nat.le_trans (adm_len s f) hn
          rw [← hr] at AD ⊢
          obtain ⟨b, r2⟩ := r
          have ON := hid (fun V oo hS => ponce_any X r2 f hrt h5 (fun e => h67 (.inl e)) (fun e => h67 (.inr e)) hl V oo hS)
          obtain ⟨q, hq⟩ : ∃ q, q = r2.onc f := ⟨_, rfl⟩
          simp only at hl AD ON ⊢
          rw [← hq] at ON ⊢
          clear hn hi0 hm hr hl hq
          obtain ⟨f0, f1, f2, f3, f4, f5, f6, f7, f8⟩ := f
          have vf : (⟨f0, f1, f2, f3, f4, f5, f6, f7, f8⟩ : F).v = .agg #[.int .i64 f0, .int .i64 f1, .int .i64 f2, .int .i64 f3, .int .i64 f4, .int .i64 f5, .string f6, .int .i64 f7, .string f8] := rfl
          rw [vf]
          have HF : Hid (W = (w.alloc (.cells #[.int .i64 f0, .int .i64 f1, .int .i64 f2, .int .i64 f3, .int .i64 f4, .int .i64 f5, .string f6, .int .i64 f7, .string f8] 28)).alloc (.cells #[.int .i64 0, .int .i64 0, .int .i64 0, .int .i64 0, .int .i64 0, .int .i64 0, .string ⟨#[]⟩, .int .i64 0, .string ⟨#[]⟩] 28)) := hid hW
          obtain ⟨q0, q1, q2, q3, q4, q5, q6, q7, q8⟩ := K0.nine
          clear vf hW K0

          replace RI : Hid (Calls Tryz.prog 11 #[.agg #[.int .i64 f0, .int .i64 f1, .int .i64 f2, .int .i64 f3, .int .i64 f4, .int .i64 f5, .string f6, .int .i64 f7, .string f8]] W.drew fun e w' => e = .returned (.bool true) ∧ Below W.drew.heap.size W.drew w') := RI
          replace AD : Hid (∀ V oo, IsPsl V oo X s → Calls Tryz.prog 13 #[.pointer (some ⟨X, 0, none⟩), .agg #[.int .i64 f0, .int .i64 f1, .int .i64 f2, .int .i64 f3, .int .i64 f4, .int .i64 f5, .string f6, .int .i64 f7, .string f8]] V fun e w' => e = .returned (.bool b) ∧ ∃ o', IsPsl w' o' X r2 ∧ Fr T10 oo o' V w') := AD
          replace ON : Hid (∀ V oo, IsPsl V oo X r2 → Calls Tryz.prog 14 #[.pointer (some ⟨X, 0, none⟩), .agg #[.int .i64 f0, .int .i64 f1, .int .i64 f2, .int .i64 f3, .int .i64 f4, .int .i64 f5, .string f6, .int .i64 f7, .string f8]] V fun e w' => e = .returned q.1.v ∧ ∃ o', IsPsl w' o' X q.2 ∧ Fr TP oo o' V w') := ON
          replace hs : f1 = i0 := hs
          have tn : (f1 != i0) = false := by simp [hs]
          have t5 : (f0 == 5) = false := by simp; exact h5
          have t6 : (f0 == 6) = false := by simp; exact fun e => h67 (.inl e)
          have t7 : (f0 == 7) = false := by simp; exact fun e => h67 (.inr e)
          clear hs hrt h5 h67
          have SQ : Hid (∀ V, Below W.heap.size W V → (V.cell? ⟨X, 0, none⟩ = some (.int .i64 i0) ∧ V.cell? ⟨w.heap.size, 0, none⟩ = some (.int .i64 f0) ∧ V.cell? ⟨w.heap.size, 1, none⟩ = some (.int .i64 f1) ∧ V.cell? ⟨w.heap.size, 2, none⟩ = some (.int .i64 f2) ∧ V.cell? ⟨w.heap.size, 3, none⟩ = some (.int .i64 f3) ∧ V.cell? ⟨w.heap.size, 4, none⟩ = some (.int .i64 f4) ∧ V.cell? ⟨w.heap.size, 5, none⟩ = some (.int .i64 f5) ∧ V.cell? ⟨w.heap.size, 6, none⟩ = some (.string f6) ∧ V.cell? ⟨w.heap.size, 7, none⟩ = some (.int .i64 f7) ∧ V.cell? ⟨w.heap.size, 8, none⟩ = some (.string f8))) := hid (fun V b => ⟨(by have := (HI0.out.below b).c.c0; rw [HID.out] at this; exact this), (HK.out.below b).nine⟩)
          have HBD : Hid (Below W.heap.size W W.drew) := hid (below_drewN (Below.refl _ W) 1)
          have S0 := SQ.out _ HBD.out

          go_enter Tryz.func5, Tryz.ntmps5
          go_wp2_with fail
          rw [← HF.out]

          go_region_held3 (fun V => V.cell? ⟨X, 0, none⟩ = some (.int .i64 i0) ∧ V.cell? ⟨w.heap.size, 0, none⟩ = some (.int .i64 f0) ∧ V.cell? ⟨w.heap.size, 1, none⟩ = some (.int .i64 f1) ∧ V.cell? ⟨w.heap.size, 2, none⟩ = some (.int .i64 f2) ∧ V.cell? ⟨w.heap.size, 3, none⟩ = some (.int .i64 f3) ∧ V.cell? ⟨w.heap.size, 4, none⟩ = some (.int .i64 f4) ∧ V.cell? ⟨w.heap.size, 5, none⟩ = some (.int .i64 f5) ∧ V.cell? ⟨w.heap.size, 6, none⟩ = some (.string f6) ∧ V.cell? ⟨w.heap.size, 7, none⟩ = some (.int .i64 f7) ∧ V.cell? ⟨w.heap.size, 8, none⟩ = some (.string f8))
            (first | with_reducible exact S0 | with_reducible exact S1)
            (first | (go_at_call 11; (with_reducible refine RI.out.mono ?_); rintro e w1 ⟨rfl, b1⟩; have B1 := hid (HBD.out.trans (b1.mono HBD.out.size)); have S1 := SQ.out _ B1.out; clear b1))

          obtain ⟨_, y0, y1, y2, y3, y4, y5, y6, y7, y8⟩ := S1
          have ADV := hid (AD.out w1 o1 ⟨C, D, d, HI0.out.below B1.out⟩)
          go_wp2_with fail
          refine ADV.out.mono ?_
          rintro e w3 ⟨rfl, o3, I3, G3⟩
          have R3 := (HR.out.below B1.out).fr G3 nT10b
          have K3 := (HK.out.below B1.out).fr G3 nT10b
          have GG3 := (HG.out.trans (Fr.ofBelow TP o1 B1.out)).trans (G3.mono (fun t e => T10.tp e))
          obtain ⟨z0, z1, z2, z3, z4, z5, z6, z7, z8⟩ := K3.nine
          clear y0 y1 y2 y3 y4 y5 y6 y7 y8 q0 q1 q2 q3 q4 q5 q6 q7 q8 ADV AD
          cases b with
          | false =>
            have HE := hid (RB9.fin R3 I3 GG3 (by omega) Wi.Z)
            obtain ⟨A, hA⟩ : ∃ A, A = (Wi.Z).cs := ⟨_, rfl⟩
            have HA := hid hA
            have HLA : Hid (A.length = 9) := hid (by rw [hA]; rfl)
            have HOA : Hid (∀ u ∈ A, u.oneCell' = true) := hid (by rw [hA]; exact fz_ones _)
            rw [← hA] at HE
            have HE2 := hid HE.out.1
            have HRG := hid HE.out.2.1
            have HFN := hid HE.out.2.2
            clear HE hA
            have HAL : Hid (A = [.int .i64 0, .int .i64 0, .int .i64 0, .int .i64 0, .int .i64 0, .int .i64 0, .string ⟨#[]⟩, .int .i64 0, .string ⟨#[]⟩]) := hid (by rw [HA.out]; rfl)
            go_wp2_with ((with_reducible show wpList _ _ _ (Oper.mk none (Op.store 28 (.tmp 4) _) _ _ _ _ :: _) _ _); refine wpList_store_mid (by rfl) 28 (.tmp 4) (.tmp 36) (by rfl) (w.heap.size + 1) 0 A.toArray (by rfl) (by rw [HAL.out]; rfl) HE2.out (by rw [List.size_toArray, HLA.out]; kernel_rfl) (all_oneCell_toArray HOA.out) ?_; rw [show A.toArray.toList = A from rfl])
            refine bodyPost_ret (v := .tuple #[.agg A.toArray, .bool false]) (by simp [results, Tryz.results5]; exact res2z (loadz HRG.out HLA.out)) rfl ?_
            exact ⟨by rw [HA.out]; rfl, o3, HFN.out⟩

          | true =>
            have ONV := hid (ON.out w3 o3 I3)
            have HR3 := hid R3
            have HG3 := hid GG3
            clear R3 K3 GG3 G3 I3
            go_wp2_with fail
            refine ONV.out.mono ?_
            rintro e w5 ⟨rfl, o5, I5, G5⟩
            have R5 := HR3.out.fr G5 (fun e => nTP8 _ e rfl)
            have GG5 := HG3.out.trans G5
            clear z0 z1 z2 z3 z4 z5 z6 z7 z8
            have HE := hid (RB9.fin R5 I5 GG5 (by omega) q.1)
            obtain ⟨A, hA⟩ : ∃ A, A = (q.1).cs := ⟨_, rfl⟩
            have HA := hid hA
            have HLA : Hid (A.length = 9) := hid (by rw [hA]; rfl)
            have HOA : Hid (∀ u ∈ A, u.oneCell' = true) := hid (by rw [hA]; exact fz_ones _)
            rw [← hA] at HE
            have HE2 := hid HE.out.1
            have HRG := hid HE.out.2.1
            have HFN := hid HE.out.2.2
            clear HE hA
            rw [show q.1.v = .agg A.toArray by rw [HA.out]; rfl]
            go_wp2_with ((with_reducible show wpList _ _ _ (Oper.mk none (Op.store 28 (.tmp 4) _) _ _ _ _ :: _) _ _); refine wpList_store_mid (by rfl) 28 (.tmp 4) (.tmp 39) (by rfl) (w.heap.size + 1) 0 A.toArray (by rfl) (by rfl) HE2.out (by rw [List.size_toArray, HLA.out]; kernel_rfl) (all_oneCell_toArray HOA.out) ?_; rw [show A.toArray.toList = A from rfl])
            refine bodyPost_ret (v := .tuple #[.agg A.toArray, .bool true]) (by simp [results, Tryz.results5]; exact res2z (loadz HRG.out HLA.out)) rfl ?_
            exact ⟨by rw [HA.out]; rfl, o5, HFN.out⟩

    · rw [take_slot (by rw [hi0]; exact hs)]
      clear hn hi0
      obtain ⟨f0, f1, f2, f3, f4, f5, f6, f7, f8⟩ := f
      have vf : (⟨f0, f1, f2, f3, f4, f5, f6, f7, f8⟩ : F).v = .agg #[.int .i64 f0, .int .i64 f1, .int .i64 f2, .int .i64 f3, .int .i64 f4, .int .i64 f5, .string f6, .int .i64 f7, .string f8] := rfl
      rw [vf]
      have HF : Hid (W = (w.alloc (.cells #[.int .i64 f0, .int .i64 f1, .int .i64 f2, .int .i64 f3, .int .i64 f4, .int .i64 f5, .string f6, .int .i64 f7, .string f8] 28)).alloc (.cells #[.int .i64 0, .int .i64 0, .int .i64 0, .int .i64 0, .int .i64 0, .int .i64 0, .string ⟨#[]⟩, .int .i64 0, .string ⟨#[]⟩] 28)) := hid hW
      obtain ⟨q0, q1, q2, q3, q4, q5, q6, q7, q8⟩ := K0.nine
      clear vf hW K0

      replace RI : Hid (Calls Tryz.prog 11 #[.agg #[.int .i64 f0, .int .i64 f1, .int .i64 f2, .int .i64 f3, .int .i64 f4, .int .i64 f5, .string f6, .int .i64 f7, .string f8]] W.drew fun e w' => e = .returned (.bool true) ∧ Below W.drew.heap.size W.drew w') := RI
      replace hs : ¬ f1 = i0 := hs
      have tn : (f1 != i0) = true := by simp [hs]
      clear hs hrt
      have SQ : Hid (∀ V, Below W.heap.size W V → (V.cell? ⟨X, 0, none⟩ = some (.int .i64 i0) ∧ V.cell? ⟨w.heap.size, 0, none⟩ = some (.int .i64 f0) ∧ V.cell? ⟨w.heap.size, 1, none⟩ = some (.int .i64 f1) ∧ V.cell? ⟨w.heap.size, 2, none⟩ = some (.int .i64 f2) ∧ V.cell? ⟨w.heap.size, 3, none⟩ = some (.int .i64 f3) ∧ V.cell? ⟨w.heap.size, 4, none⟩ = some (.int .i64 f4) ∧ V.cell? ⟨w.heap.size, 5, none⟩ = some (.int .i64 f5) ∧ V.cell? ⟨w.heap.size, 6, none⟩ = some (.string f6) ∧ V.cell? ⟨w.heap.size, 7, none⟩ = some (.int .i64 f7) ∧ V.cell? ⟨w.heap.size, 8, none⟩ = some (.string f8))) := hid (fun V b => ⟨(by have := (HI0.out.below b).c.c0; rw [HID.out] at this; exact this), (HK.out.below b).nine⟩)
      have HBD : Hid (Below W.heap.size W W.drew) := hid (below_drewN (Below.refl _ W) 1)
      have S0 := SQ.out _ HBD.out

      go_enter Tryz.func5, Tryz.ntmps5
      go_wp2_with fail
      rw [← HF.out]

      go_region_held3 (fun V => V.cell? ⟨X, 0, none⟩ = some (.int .i64 i0) ∧ V.cell? ⟨w.heap.size, 0, none⟩ = some (.int .i64 f0) ∧ V.cell? ⟨w.heap.size, 1, none⟩ = some (.int .i64 f1) ∧ V.cell? ⟨w.heap.size, 2, none⟩ = some (.int .i64 f2) ∧ V.cell? ⟨w.heap.size, 3, none⟩ = some (.int .i64 f3) ∧ V.cell? ⟨w.heap.size, 4, none⟩ = some (.int .i64 f4) ∧ V.cell? ⟨w.heap.size, 5, none⟩ = some (.int .i64 f5) ∧ V.cell? ⟨w.heap.size, 6, none⟩ = some (.string f6) ∧ V.cell? ⟨w.heap.size, 7, none⟩ = some (.int .i64 f7) ∧ V.cell? ⟨w.heap.size, 8, none⟩ = some (.string f8))
        (first | with_reducible exact S0 | with_reducible exact S1)
        (first | (go_at_call 11; (with_reducible refine RI.out.mono ?_); rintro e w1 ⟨rfl, b1⟩; have B1 := hid (HBD.out.trans (b1.mono HBD.out.size)); have S1 := SQ.out _ B1.out; clear b1))

      have R1 := HR.out.below B1.out
      have I1 : IsPsl w1 o1 X s := ⟨C, D, d, HI0.out.below B1.out⟩
      have G1 := HG.out.trans (Fr.ofBelow TP o1 B1.out)

      have HE := hid (RB9.fin R1 I1 G1 (by omega) Wi.Z)
      obtain ⟨A, hA⟩ : ∃ A, A = (Wi.Z).cs := ⟨_, rfl⟩
      have HA := hid hA
      have HLA : Hid (A.length = 9) := hid (by rw [hA]; rfl)
      have HOA : Hid (∀ u ∈ A, u.oneCell' = true) := hid (by rw [hA]; exact fz_ones _)
      rw [← hA] at HE
      have HE2 := hid HE.out.1
      have HRG := hid HE.out.2.1
      have HFN := hid HE.out.2.2
      clear HE hA
      have HAL : Hid (A = [.int .i64 0, .int .i64 0, .int .i64 0, .int .i64 0, .int .i64 0, .int .i64 0, .string ⟨#[]⟩, .int .i64 0, .string ⟨#[]⟩]) := hid (by rw [HA.out]; rfl)
      go_wp2_with ((with_reducible show wpList _ _ _ (Oper.mk none (Op.store 28 (.tmp 4) _) _ _ _ _ :: _) _ _); refine wpList_store_mid (by rfl) 28 (.tmp 4) (.tmp 18) (by rfl) (w.heap.size + 1) 0 A.toArray (by rfl) (by rw [HAL.out]; rfl) HE2.out (by rw [List.size_toArray, HLA.out]; kernel_rfl) (all_oneCell_toArray HOA.out) ?_; rw [show A.toArray.toList = A from rfl])
      refine bodyPost_ret (v := .tuple #[.agg A.toArray, .bool false]) (by simp [results, Tryz.results5]; exact res2z (loadz HRG.out HLA.out)) rfl ?_
      exact ⟨by rw [HA.out]; rfl, o1, HFN.out⟩

  · rw [take_may (by unfold Sl.may; rw [show Wi.rt f = false by simpa using hrt]; simp)]
    have hrt' : Wi.rt f = false := by simpa using hrt
    have RI0 := hid (fun V => Wi.right_any f V)
    simp only [hrt'] at RI0
    clear hn hi0 hrt hrt' RI
    obtain ⟨f0, f1, f2, f3, f4, f5, f6, f7, f8⟩ := f
    have vf : (⟨f0, f1, f2, f3, f4, f5, f6, f7, f8⟩ : F).v = .agg #[.int .i64 f0, .int .i64 f1, .int .i64 f2, .int .i64 f3, .int .i64 f4, .int .i64 f5, .string f6, .int .i64 f7, .string f8] := rfl
    rw [vf]
    have HF : Hid (W = (w.alloc (.cells #[.int .i64 f0, .int .i64 f1, .int .i64 f2, .int .i64 f3, .int .i64 f4, .int .i64 f5, .string f6, .int .i64 f7, .string f8] 28)).alloc (.cells #[.int .i64 0, .int .i64 0, .int .i64 0, .int .i64 0, .int .i64 0, .int .i64 0, .string ⟨#[]⟩, .int .i64 0, .string ⟨#[]⟩] 28)) := hid hW
    obtain ⟨q0, q1, q2, q3, q4, q5, q6, q7, q8⟩ := K0.nine
    clear vf hW K0

    replace RI0 : Hid (∀ V, Calls Tryz.prog 11 #[.agg #[.int .i64 f0, .int .i64 f1, .int .i64 f2, .int .i64 f3, .int .i64 f4, .int .i64 f5, .string f6, .int .i64 f7, .string f8]] V fun e w' => e = .returned (.bool false) ∧ Below V.heap.size V w') := RI0
    go_enter Tryz.func5, Tryz.ntmps5
    go_wp2_with fail
    rw [← HF.out]

    obtain ⟨Y, eY⟩ : ∃ Y : World, Y = { W with drawn := W.drawn + 1 } := ⟨_, rfl⟩
    have YB : Hid (Below W.heap.size W Y) := hid (by rw [eY]; exact below_drewN (Below.refl _ _) 1)
    have RU : Hid (∀ s : Up Y, Calls Tryz.prog 11 #[.agg #[.int .i64 f0, .int .i64 f1, .int .i64 f2, .int .i64 f3, .int .i64 f4, .int .i64 f5, .string f6, .int .i64 f7, .string f8]] s.w fun e w' => e = .returned (.bool false) ∧ ∃ s' : Up Y, w' = s'.w) := hid (fun s => (RI0.out s.w).mono fun _ w' h => ⟨h.1, ⟨w', s.h.trans (h.2.mono s.h.size)⟩, rfl⟩)
    have k0 : ∀ s : Up Y, s.w.cell? ⟨w.heap.size, 0, none⟩ = some (.int .i64 f0) := fun s => (HK.out.below (YB.out.trans (s.h.mono YB.out.size))).q 0 _ rfl
    have k1 : ∀ s : Up Y, s.w.cell? ⟨w.heap.size, 1, none⟩ = some (.int .i64 f1) := fun s => (HK.out.below (YB.out.trans (s.h.mono YB.out.size))).q 1 _ rfl
    have k2 : ∀ s : Up Y, s.w.cell? ⟨w.heap.size, 2, none⟩ = some (.int .i64 f2) := fun s => (HK.out.below (YB.out.trans (s.h.mono YB.out.size))).q 2 _ rfl
    have k3 : ∀ s : Up Y, s.w.cell? ⟨w.heap.size, 3, none⟩ = some (.int .i64 f3) := fun s => (HK.out.below (YB.out.trans (s.h.mono YB.out.size))).q 3 _ rfl
    have k4 : ∀ s : Up Y, s.w.cell? ⟨w.heap.size, 4, none⟩ = some (.int .i64 f4) := fun s => (HK.out.below (YB.out.trans (s.h.mono YB.out.size))).q 4 _ rfl
    have k5 : ∀ s : Up Y, s.w.cell? ⟨w.heap.size, 5, none⟩ = some (.int .i64 f5) := fun s => (HK.out.below (YB.out.trans (s.h.mono YB.out.size))).q 5 _ rfl
    have k6 : ∀ s : Up Y, s.w.cell? ⟨w.heap.size, 6, none⟩ = some (.string f6) := fun s => (HK.out.below (YB.out.trans (s.h.mono YB.out.size))).q 6 _ rfl
    have k7 : ∀ s : Up Y, s.w.cell? ⟨w.heap.size, 7, none⟩ = some (.int .i64 f7) := fun s => (HK.out.below (YB.out.trans (s.h.mono YB.out.size))).q 7 _ rfl
    have k8 : ∀ s : Up Y, s.w.cell? ⟨w.heap.size, 8, none⟩ = some (.string f8) := fun s => (HK.out.below (YB.out.trans (s.h.mono YB.out.size))).q 8 _ rfl
    refine region_up (by kernel_rfl) (by kernel_rfl) Y eY ?_
    clear eY
    have ne : Nonempty (Up Y) := ⟨⟨Y, Below.refl _ _⟩⟩
    repeat (go_big_quiet_step (exact RU.out _))
    refine wpQuiet_nil ?_
    rintro w1 ⟨s13, rfl⟩
    obtain ⟨w1, hw1⟩ : ∃ w1, w1 = s13.w := ⟨_, rfl⟩
    rw [← hw1]
    have B1 : Hid (Below W.heap.size W w1) := hid (by rw [hw1]; exact YB.out.trans (s13.h.mono YB.out.size))
    clear k0 k1 k2 k3 k4 k5 k6 k7 k8 RU hw1

    have R1 := HR.out.below B1.out
    have I1 : IsPsl w1 o1 X s := ⟨C, D, d, HI0.out.below B1.out⟩
    have G1 := HG.out.trans (Fr.ofBelow TP o1 B1.out)

    have HE := hid (RB9.fin R1 I1 G1 (by omega) Wi.Z)
    obtain ⟨A, hA⟩ : ∃ A, A = (Wi.Z).cs := ⟨_, rfl⟩
    have HA := hid hA
    have HLA : Hid (A.length = 9) := hid (by rw [hA]; rfl)
    have HOA : Hid (∀ u ∈ A, u.oneCell' = true) := hid (by rw [hA]; exact fz_ones _)
    rw [← hA] at HE
    have HE2 := hid HE.out.1
    have HRG := hid HE.out.2.1
    have HFN := hid HE.out.2.2
    clear HE hA
    have HAL : Hid (A = [.int .i64 0, .int .i64 0, .int .i64 0, .int .i64 0, .int .i64 0, .int .i64 0, .string ⟨#[]⟩, .int .i64 0, .string ⟨#[]⟩]) := hid (by rw [HA.out]; rfl)
    go_wp2_with ((with_reducible show wpList _ _ _ (Oper.mk none (Op.store 28 (.tmp 4) _) _ _ _ _ :: _) _ _); refine wpList_store_mid (by rfl) 28 (.tmp 4) (.tmp 18) (by rfl) (w.heap.size + 1) 0 A.toArray (by rfl) (by rw [HAL.out]; rfl) HE2.out (by rw [List.size_toArray, HLA.out]; kernel_rfl) (all_oneCell_toArray HOA.out) ?_; rw [show A.toArray.toList = A from rfl])
    refine bodyPost_ret (v := .tuple #[.agg A.toArray, .bool false]) (by simp [results, Tryz.results5]; exact res2z (loadz HRG.out HLA.out)) rfl ?_
    exact ⟨by rw [HA.out]; rfl, o1, HFN.out⟩

end Go.Proofs.YtfinaichajbnkaaGreatDoor
