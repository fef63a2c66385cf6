/-
  reset.
-/
import Derived.Test.YtfinaichajbnkaaGreatDoorPky
import Derived.Test.YtfinaichajbnkaaGreatDoorPkc
import Derived.Test.YtfinaichajbnkaaGreatDoorSma
namespace Go.Proofs.YtfinaichajbnkaaGreatDoor
open Go.RowKit
open Wi (F)

set_option maxRecDepth 100000 in
set_option maxHeartbeats 2000000 in
theorem preset_any (X : Nat) (s : Sl) (f : F) (w : World) (o : Nat → Nat × Nat) (h : IsPsl w o X s) :
    Calls Tryz.prog 12 #[.pointer (some ⟨X, 0, none⟩), f.v] w fun e w' => e = .returned (.tuple #[optv (s.reset f).1, .bool (s.reset f).1.isSome]) ∧ ∃ o', IsPsl w' o' X (s.reset f).2 ∧ Fr (· = (10, 0)) o o' w w' := by
  obtain ⟨C, D, d, h⟩ := h
  have HI := hid h
  obtain ⟨W, hW⟩ : ∃ W, W = (w.alloc (.cells f.cs.toArray 28)).alloc (.cells Wi.Z.cs.toArray 28) := ⟨_, rfl⟩
  have S2 := start2 w o f
  rw [← hW] at S2
  obtain ⟨K0, R0, bW⟩ := S2
  have G0 : Fr (· = (10, 0)) o (nwl o w.heap.size) w W := nwl_fr _ o bW
  have I0 : IsPl W (nwl o w.heap.size) X s C D d := HI.out.fr (nwl_fr (fun _ => False) o bW) (fun _ _ => id)
  obtain ⟨o1, ho1⟩ : ∃ o1, o1 = nwl o w.heap.size := ⟨_, rfl⟩
  rw [← ho1] at K0 R0 G0 I0
  have HK := hid K0
  have HR := hid R0
  have HG := hid G0
  have HI0 := hid I0
  clear h HI ho1 G0 I0 R0 bW

  by_cases hc : s.inc < f.inc
  · rw [reset_new hc]
    have hc := hc
    have WP := hid (fun W oo (hS : IsPsl W oo X s) => pwipe_any X s W oo hS)
    obtain ⟨a, ha⟩ : ∃ a : F, a = ⟨6, s.id, f.inc, f.rid, 0, 0, ⟨#[]⟩, 0, ⟨#[]⟩⟩ := ⟨_, rfl⟩
    rw [← ha]
    have HAA := hid ha
    have x4 := HI0.out.c.c4
    obtain ⟨i0, hi0⟩ : ∃ i0, s.inc = i0 := ⟨_, rfl⟩
    have HI1 := hid hi0
    rw [hi0] at x4 hc
    obtain ⟨f0, f1, f2, f3, f4, f5, f6, f7, f8⟩ := f
    have vf : (⟨f0, f1, f2, f3, f4, f5, f6, f7, f8⟩ : F).v = .agg #[.int .i64 f0, .int .i64 f1, .int .i64 f2, .int .i64 f3, .int .i64 f4, .int .i64 f5, .string f6, .int .i64 f7, .string f8] := rfl
    rw [vf]
    have HF : Hid (W = (w.alloc (.cells #[.int .i64 f0, .int .i64 f1, .int .i64 f2, .int .i64 f3, .int .i64 f4, .int .i64 f5, .string f6, .int .i64 f7, .string f8] 28)).alloc (.cells #[.int .i64 0, .int .i64 0, .int .i64 0, .int .i64 0, .int .i64 0, .int .i64 0, .string ⟨#[]⟩, .int .i64 0, .string ⟨#[]⟩] 28)) := hid hW
    obtain ⟨q0, q1, q2, q3, q4, q5, q6, q7, q8⟩ := K0.nine
    clear vf hW K0

    have hc : i0 < f2 := hc
    have t1 : decide (i0 < f2) = true := by simp [hc]
    clear hi0 ha
    go_enter Tryz.func12, Tryz.ntmps12
    go_wp2_with fail
    rw [← HF.out]
    go_quiet (fail)
    go_wp2_with fail
    have bq : Below W.heap.size W (W.drewN nq) := below_drewN (Below.refl _ _) nq
    have KQ := hid (HK.out.below bq)
    have RQ := hid (HR.out.below bq)
    have IQ := hid (HI0.out.below bq)
    have GQ := hid (HG.out.trans (Fr.ofBelow (· = (10, 0)) o1 bq))
    refine (WP.out _ _ ⟨C, D, d, IQ.out⟩).mono ?_
    rintro e w3 ⟨rfl, o3, h3, g3⟩
    obtain ⟨C3, D3, d3, h3⟩ := h3
    have K3 := KQ.out.fr g3 (fun e => by cases e)
    have R3 := RQ.out.fr g3 (fun e => by cases e)
    have G3 := GQ.out.trans g3
    have p2 := K3.nine.2.2.1
    have p3 := K3.nine.2.2.2.1
    have y3 := h3.c.c3
    have y4 := h3.c.c4
    have z3 := h3.c.fz 3
    have z4 := h3.c.fz 4
    have k4 := h3.c.set (s' := { s.wipe with inc := f2 }) (C' := C3) (D' := D3) 4 (.int .i64 f2) (fun i u e => by
      rcases i with _ | _ | _ | _ | _ | _ | _ | _ | i <;> simp at e ⊢ <;> exact e) (by omega)
    have k3 := k4.set (s' := { s.clear with on := true, inc := f2 }) (C' := C3) (D' := D3) 3 (.bool true) (fun i u e => by
      rcases i with _ | _ | _ | _ | _ | _ | _ | _ | i <;> simp [Sl.wipe] at e ⊢ <;> exact e) (by omega)
    have y3' := k4.c3
    have z3' := k4.fz 3
    have g4 : Fr (· = (10, 0)) o3 o3 w3 ((w3.setCell ⟨X, 4, none⟩ (.int .i64 f2)).setCell ⟨X, 3, none⟩ (.bool true)) := (Fr.set (a := ⟨X, 4, none⟩) h3.oX _).trans (Fr.set (a := ⟨X, 3, none⟩) h3.oX _)
    have I4 : IsPl ((w3.setCell ⟨X, 4, none⟩ (.int .i64 f2)).setCell ⟨X, 3, none⟩ (.bool true)) o3 X { s.clear with on := true, inc := f2 } C3 D3 d3 := ⟨h3.oX, k3, h3.st.fr g4 (fun t ht e => by rw [e] at ht; have : 10 ≤ 3 := ht.2; omega), h3.dn.fr g4 (fun e => by cases e), h3.dd, ⟨h3.ok.i1, h3.ok.i2, h3.ok.p1, h3.ok.p2, h3.ok.g1, h3.ok.g2, h3.ok.cn⟩⟩
    have K4 := K3.fr g4 (fun e => by cases e)
    have R4 := R3.fr g4 (fun e => by cases e)
    have G4 := G3.trans g4
    obtain ⟨W4, hW4⟩ : ∃ W4, W4 = (w3.setCell ⟨X, 4, none⟩ (.int .i64 f2)).setCell ⟨X, 3, none⟩ (.bool true) := ⟨_, rfl⟩
    rw [← hW4] at I4 K4 R4 G4
    have HW4 := hid hW4
    have m2 := K4.nine.2.2.1
    have m3 := K4.nine.2.2.2.1
    have n3 := I4.c.c3
    have n4 := I4.c.c4
    have HI4 := hid I4
    have HK4 := hid K4
    have HR4 := hid R4
    have HG4 := hid G4
    clear h3 K3 R3 G3 k4 k3 g4 I4 K4 R4 G4 hW4 g3 KQ RQ IQ GQ x4 bq
    go_wp2_with fail
    rw [← HW4.out]
    have tn : (f2 != f2) = false := by simp
    go_big_quiet (fail)
    go_wp2_with fail
    have bq : Below W4.heap.size W4 (W4.drewN nq) := below_drewN (Below.refl _ _) nq
    have IQ := hid (HI4.out.below bq)
    have RP := hid (reply_any X _ C3 D3 6 f3 _ IQ.out.c)
    have ev : (⟨6, ({ s.clear with on := true, inc := f2 } : Sl).id, ({ s.clear with on := true, inc := f2 } : Sl).inc, f3, 0, 0, ⟨#[]⟩, 0, ⟨#[]⟩⟩ : F) = a := HAA.out.symm
    rw [ev] at RP
    refine RP.out.mono ?_
    rintro e w5 ⟨rfl, b5⟩
    have R5 := (HR4.out.below bq).below b5
    have I5 := IQ.out.below b5
    have G5 := (HG4.out.trans (Fr.ofBelow (· = (10, 0)) o3 bq)).trans (Fr.ofBelow (· = (10, 0)) o3 b5)
    have HE := hid (RB9.fin R5 ⟨C3, D3, d3, I5⟩ G5 (by omega) a)
    obtain ⟨A, hA⟩ : ∃ A, A = (a).cs := ⟨_, rfl⟩
    have HA := hid hA
    have HLA : Hid (A.length = 9) := hid (by rw [hA]; rfl)
    have HOA : Hid (∀ u ∈ A, u.oneCell' = true) := hid (by rw [hA]; exact fz_ones _)
    rw [← hA] at HE
    have HE2 := hid HE.out.1
    have HRG := hid HE.out.2.1
    have HFN := hid HE.out.2.2
    clear HE hA

    rw [show a.v = .agg A.toArray by rw [HA.out]; rfl]
    clear R5 I5 G5 b5 bq IQ RP m2 m3 n3 n4 HI4 HK4 HR4 HG4 ev
    go_wp2_with ((with_reducible show wpList _ _ _ (Oper.mk none (Op.store 28 (.tmp 4) _) _ _ _ _ :: _) _ _); refine wpList_store_mid (by rfl) 28 (.tmp 4) (.tmp 41) (by rfl) (w.heap.size + 1) 0 A.toArray (by rfl) (by rfl) HE2.out (by rw [List.size_toArray, HLA.out]; kernel_rfl) (all_oneCell_toArray HOA.out) ?_; rw [show A.toArray.toList = A from rfl])
    refine bodyPost_ret (v := .tuple #[.agg A.toArray, .bool true]) (by simp [results, Tryz.results12]; exact res2z (loadz HRG.out HLA.out)) rfl ?_
    exact ⟨by rw [HA.out]; rfl, o3, HFN.out⟩
  · by_cases hs : f.inc = s.inc ∧ s.on = true
    · rw [reset_same hs.1 hs.2]
      obtain ⟨a, ha⟩ : ∃ a : F, a = ⟨6, s.id, s.inc, f.rid, 0, 0, ⟨#[]⟩, 0, ⟨#[]⟩⟩ := ⟨_, rfl⟩
      rw [← ha]
      have HAA := hid ha
      have x4 := HI0.out.c.c4
      have x3 := HI0.out.c.c3
      rw [hs.2] at x3
      obtain ⟨i0, hi0⟩ : ∃ i0, s.inc = i0 := ⟨_, rfl⟩
      have HI1 := hid hi0
      rw [hi0] at x4 hc hs
      obtain ⟨f0, f1, f2, f3, f4, f5, f6, f7, f8⟩ := f
      have vf : (⟨f0, f1, f2, f3, f4, f5, f6, f7, f8⟩ : F).v = .agg #[.int .i64 f0, .int .i64 f1, .int .i64 f2, .int .i64 f3, .int .i64 f4, .int .i64 f5, .string f6, .int .i64 f7, .string f8] := rfl
      rw [vf]
      have HF : Hid (W = (w.alloc (.cells #[.int .i64 f0, .int .i64 f1, .int .i64 f2, .int .i64 f3, .int .i64 f4, .int .i64 f5, .string f6, .int .i64 f7, .string f8] 28)).alloc (.cells #[.int .i64 0, .int .i64 0, .int .i64 0, .int .i64 0, .int .i64 0, .int .i64 0, .string ⟨#[]⟩, .int .i64 0, .string ⟨#[]⟩] 28)) := hid hW
      obtain ⟨q0, q1, q2, q3, q4, q5, q6, q7, q8⟩ := K0.nine
      clear vf hW K0

      have hs1 : f2 = i0 := hs.1
      subst hs1
      have t1 : decide (f2 < f2) = false := by simp
      have tn : (f2 != f2) = false := by simp
      have RP : Hid (∀ n, Calls Tryz.prog 26 #[.pointer (some ⟨X, 0, none⟩), .int .i64 6, .int .i64 f3] (W.drewN n) fun e w' => e = .returned a.v ∧ Below (W.drewN n).heap.size (W.drewN n) w') := hid (fun n => by
        have := reply_any X s C D 6 f3 _ (HI0.out.below (below_drewN (Below.refl _ _) n)).c
        rw [HAA.out]; exact this)
      clear hi0 ha hs hc
      go_enter Tryz.func12, Tryz.ntmps12
      go_wp2_with fail
      rw [← HF.out]
      go_quiet (fail)
      go_wp2_with fail
      go_big_quiet (fail)
      go_wp2_with fail
      refine (RP.out _).mono ?_
      rintro e w5 ⟨rfl, b5⟩
      have R5 := (HR.out.below (below_drewN (Below.refl _ _) _)).below b5
      have I5 := (HI0.out.below (below_drewN (Below.refl _ _) _)).below b5
      have G5 := (HG.out.trans (Fr.ofBelow (· = (10, 0)) o1 (below_drewN (Below.refl _ _) _))).trans (Fr.ofBelow (· = (10, 0)) o1 b5)
      have HE := hid (RB9.fin R5 ⟨C, D, d, I5⟩ G5 (by omega) a)
      obtain ⟨A, hA⟩ : ∃ A, A = (a).cs := ⟨_, rfl⟩
      have HA := hid hA
      have HLA : Hid (A.length = 9) := hid (by rw [hA]; rfl)
      have HOA : Hid (∀ u ∈ A, u.oneCell' = true) := hid (by rw [hA]; exact fz_ones _)
      rw [← hA] at HE
      have HE2 := hid HE.out.1
      have HRG := hid HE.out.2.1
      have HFN := hid HE.out.2.2
      clear HE hA

      rw [show a.v = .agg A.toArray by rw [HA.out]; rfl]
      clear R5 I5 G5 b5 RP HI0 HR HG HK q0 q1 q2 q3 q4 q5 q6 q7 q8 x3 x4
      go_wp2_with ((with_reducible show wpList _ _ _ (Oper.mk none (Op.store 28 (.tmp 4) _) _ _ _ _ :: _) _ _); refine wpList_store_mid (by rfl) 28 (.tmp 4) (.tmp 41) (by rfl) (w.heap.size + 1) 0 A.toArray (by rfl) (by rfl) HE2.out (by rw [List.size_toArray, HLA.out]; kernel_rfl) (all_oneCell_toArray HOA.out) ?_; rw [show A.toArray.toList = A from rfl])
      refine bodyPost_ret (v := .tuple #[.agg A.toArray, .bool true]) (by simp [results, Tryz.results12]; exact res2z (loadz HRG.out HLA.out)) rfl ?_
      exact ⟨by rw [HA.out]; rfl, o1, HFN.out⟩
    · have hno : s.reset f = (none, s) := by
        unfold Sl.reset
        simp only [if_neg hc]
        rw [if_neg (fun e => hs (by simp at e; exact ⟨e.2, e.1⟩))]
      rw [hno]
      have x4 := HI0.out.c.c4
      have x3 := HI0.out.c.c3
      obtain ⟨i0, hi0⟩ : ∃ i0, s.inc = i0 := ⟨_, rfl⟩
      obtain ⟨b0, hb0⟩ : ∃ b0, s.on = b0 := ⟨_, rfl⟩
      rw [hi0] at x4 hc hs
      rw [hb0] at x3 hs
      obtain ⟨f0, f1, f2, f3, f4, f5, f6, f7, f8⟩ := f
      have vf : (⟨f0, f1, f2, f3, f4, f5, f6, f7, f8⟩ : F).v = .agg #[.int .i64 f0, .int .i64 f1, .int .i64 f2, .int .i64 f3, .int .i64 f4, .int .i64 f5, .string f6, .int .i64 f7, .string f8] := rfl
      rw [vf]
      have HF : Hid (W = (w.alloc (.cells #[.int .i64 f0, .int .i64 f1, .int .i64 f2, .int .i64 f3, .int .i64 f4, .int .i64 f5, .string f6, .int .i64 f7, .string f8] 28)).alloc (.cells #[.int .i64 0, .int .i64 0, .int .i64 0, .int .i64 0, .int .i64 0, .int .i64 0, .string ⟨#[]⟩, .int .i64 0, .string ⟨#[]⟩] 28)) := hid hW
      obtain ⟨q0, q1, q2, q3, q4, q5, q6, q7, q8⟩ := K0.nine
      clear vf hW K0

      have hc : ¬ i0 < f2 := hc
      have hs : ¬ (f2 = i0 ∧ b0 = true) := hs
      have t1 : decide (i0 < f2) = false := by simp; omega
      have I1 : IsPsl W o1 X s := ⟨C, D, d, HI0.out⟩
      have HI1 := hid I1
      clear I1 hi0 hb0 hc
      go_enter Tryz.func12, Tryz.ntmps12
      go_wp2_with fail
      rw [← HF.out]
      go_quiet (fail)
      obtain ⟨n1, hn1⟩ : ∃ n1, n1 = nq := ⟨_, rfl⟩
      rw [← hn1]
      clear hn1
      go_wp2_with fail
      cases b0 with
      | false =>
        clear hs
        go_big_quiet (fail)
        have bq : Below W.heap.size W (W.drewN (n1 + nq)) := below_drewN (Below.refl _ _) _
        have R5 := HR.out.below bq
        have I5 := HI1.out.below bq
        have G5 := HG.out.trans (Fr.ofBelow (· = (10, 0)) o1 bq)
        have HE := hid (RB9.fin R5 I5 G5 (by omega) Wi.Z)
        obtain ⟨A, hA⟩ : ∃ A, A = (Wi.Z).cs := ⟨_, rfl⟩
        have HA := hid hA
        have HLA : Hid (A.length = 9) := hid (by rw [hA]; rfl)
        have HOA : Hid (∀ u ∈ A, u.oneCell' = true) := hid (by rw [hA]; exact fz_ones _)
        rw [← hA] at HE
        have HE2 := hid HE.out.1
        have HRG := hid HE.out.2.1
        have HFN := hid HE.out.2.2
        clear HE hA

        clear R5 I5 G5 bq HI1 HI0 HR HG HK q0 q1 q2 q3 q4 q5 q6 q7 q8 x3 x4
        have HAL : Hid (A = [.int .i64 0, .int .i64 0, .int .i64 0, .int .i64 0, .int .i64 0, .int .i64 0, .string ⟨#[]⟩, .int .i64 0, .string ⟨#[]⟩]) := hid (by rw [HA.out]; rfl)
        go_wp2_with ((with_reducible show wpList _ _ _ (Oper.mk none (Op.store 28 (.tmp 4) _) _ _ _ _ :: _) _ _); refine wpList_store_mid (by rfl) 28 (.tmp 4) (.tmp 37) (by rfl) (w.heap.size + 1) 0 A.toArray (by rfl) (by rw [HAL.out]; rfl) HE2.out (by rw [List.size_toArray, HLA.out]; kernel_rfl) (all_oneCell_toArray HOA.out) ?_; rw [show A.toArray.toList = A from rfl])
        refine bodyPost_ret (v := .tuple #[.agg A.toArray, .bool false]) (by simp [results, Tryz.results12]; exact res2z (loadz HRG.out HLA.out)) rfl ?_
        exact ⟨by rw [HA.out]; rfl, o1, HFN.out⟩
      | true =>
        have tn : (f2 != i0) = true := by simp; exact fun e => hs ⟨e, rfl⟩
        clear hs
        go_big_quiet (fail)
        have bq : Below W.heap.size W (W.drewN (n1 + nq)) := below_drewN (Below.refl _ _) _
        have R5 := HR.out.below bq
        have I5 := HI1.out.below bq
        have G5 := HG.out.trans (Fr.ofBelow (· = (10, 0)) o1 bq)
        have HE := hid (RB9.fin R5 I5 G5 (by omega) Wi.Z)
        obtain ⟨A, hA⟩ : ∃ A, A = (Wi.Z).cs := ⟨_, rfl⟩
        have HA := hid hA
        have HLA : Hid (A.length = 9) := hid (by rw [hA]; rfl)
        have HOA : Hid (∀ u ∈ A, u.oneCell' = true) := hid (by rw [hA]; exact fz_ones _)
        rw [← hA] at HE
        have HE2 := hid HE.out.1
        have HRG := hid HE.out.2.1
        have HFN := hid HE.out.2.2
        clear HE hA

        clear R5 I5 G5 bq HI1 HI0 HR HG HK q0 q1 q2 q3 q4 q5 q6 q7 q8 x3 x4
        have HAL : Hid (A = [.int .i64 0, .int .i64 0, .int .i64 0, .int .i64 0, .int .i64 0, .int .i64 0, .string ⟨#[]⟩, .int .i64 0, .string ⟨#[]⟩]) := hid (by rw [HA.out]; rfl)
        go_wp2_with ((with_reducible show wpList _ _ _ (Oper.mk none (Op.store 28 (.tmp 4) _) _ _ _ _ :: _) _ _); refine wpList_store_mid (by rfl) 28 (.tmp 4) (.tmp 37) (by rfl) (w.heap.size + 1) 0 A.toArray (by rfl) (by rw [HAL.out]; rfl) HE2.out (by rw [List.size_toArray, HLA.out]; kernel_rfl) (all_oneCell_toArray HOA.out) ?_; rw [show A.toArray.toList = A from rfl])
        refine bodyPost_ret (v := .tuple #[.agg A.toArray, .bool false]) (by simp [results, Tryz.results12]; exact res2z (loadz HRG.out HLA.out)) rfl ?_
        exact ⟨by rw [HA.out]; rfl, o1, HFN.out⟩
end Go.Proofs.YtfinaichajbnkaaGreatDoor
