/-
  do: FGet.
-/
import Derived.Test.YtfinaichajbnkaaGreatDoorPkc
import Derived.Test.YtfinaichajbnkaaGreatDoorPgt
namespace Go.Proofs.YtfinaichajbnkaaGreatDoor
open Go.RowKit
open Wi (F)

theorem get_of (s : Sl) (f : F) : s.get f = ({ s.an f with ver := gV (got s.z f), data := gD (got s.z f) }, s.z.touch (nm f)) := by
  unfold Sl.get
  cases hg : got s.z f with
  | none =>
    have ht : s.z.touch (nm f) = s.z := by
      unfold got at hg
      unfold Sp.touch
      cases hf : fnd s.z.l (nm f) with
      | none => rfl
      | some i => rw [hf] at hg; cases hg
    rw [ht]; rfl
  | some p => rfl
set_option maxRecDepth 100000 in
set_option maxHeartbeats 2000000 in
theorem pdo_get (X : Nat) (s : Sl) (C : Nat) (D : Value) (d : List F) (f : F) (h0 : f.kind = 2) (hr : f.role = 1 ∨ f.role = 2) (hv1 : -9223372036854775808 ≤ f.ver) (hv2 : f.ver ≤ 9223372036854775807) (hk : f.key.size ≤ 1000000) (w : World) (o : Nat → Nat × Nat) (h : IsPl w o X s C D d) :
    Calls Tryz.prog 30 #[.pointer (some ⟨X, 0, none⟩), f.v] w fun e w' => e = .returned ((s.get f).1).v ∧ ∃ o', IsPl w' o' X { s with z := (s.get f).2 } C D d ∧ Fr TS o o' w w' := by
  have PG := hid (fun W oo (hS : IsPl W oo X s C D d) => pget_any X s C D d f hr hk hv1 hv2 W oo hS)
  rw [get_of]
  obtain ⟨gv, hgv⟩ : ∃ gv, gv = gV (got s.z f) := ⟨_, rfl⟩
  obtain ⟨gd, hgd⟩ : ∃ gd, gd = gD (got s.z f) := ⟨_, rfl⟩
  obtain ⟨gb, hgb⟩ : ∃ gb, gb = (got s.z f).isSome := ⟨_, rfl⟩
  obtain ⟨zt, hzt⟩ : ∃ zt, zt = s.z.touch (nm f) := ⟨_, rfl⟩
  rw [← hgv, ← hgd, ← hgb, ← hzt] at PG
  rw [← hgv, ← hgd, ← hzt]
  clear hgv hgd hgb hzt hr hv1 hv2
  have CL := hid (fun W => pclone_any f.key (by omega) W)
  obtain ⟨f0, f1, f2, f3, f4, f5, f6, f7, f8⟩ := f
  have h0 : f0 = 2 := h0
  subst h0
  obtain ⟨f, hf⟩ : ∃ f : F, f = ⟨2, f1, f2, f3, f4, f5, f6, f7, f8⟩ := ⟨_, rfl⟩
  have vf : (⟨2, f1, f2, f3, f4, f5, f6, f7, f8⟩ : F).v = .agg #[.int .i64 2, .int .i64 f1, .int .i64 f2, .int .i64 f3, .int .i64 f4, .int .i64 f5, .string f6, .int .i64 f7, .string f8] := rfl
  have HI := hid h
  obtain ⟨W, hW⟩ : ∃ W, W = (w.alloc (.cells #[.int .i64 2, .int .i64 f1, .int .i64 f2, .int .i64 f3, .int .i64 f4, .int .i64 f5, .string f6, .int .i64 f7, .string f8] 28)).alloc (.cells #[.int .i64 0, .int .i64 0, .int .i64 0, .int .i64 0, .int .i64 0, .int .i64 0, .string ⟨#[]⟩, .int .i64 0, .string ⟨#[]⟩] 28) := ⟨_, rfl⟩
  have S2 := start2 w o ⟨2, f1, f2, f3, f4, f5, f6, f7, f8⟩
  have hW2 : W = (w.alloc (.cells (⟨2, f1, f2, f3, f4, f5, f6, f7, f8⟩ : F).cs.toArray 28)).alloc (.cells Wi.Z.cs.toArray 28) := hW
  rw [← hW2] at S2
  obtain ⟨K0, R0, bW⟩ := S2
  have G0 : Fr TS o (nwl o w.heap.size) w W := nwl_fr _ o bW
  have I0 : IsPl W (nwl o w.heap.size) X s C D d := HI.out.fr (nwl_fr (fun _ => False) o bW) (fun _ _ => id)
  have HSZ := hid bW.size
  obtain ⟨o1, ho1⟩ : ∃ o1, o1 = nwl o w.heap.size := ⟨_, rfl⟩
  rw [← ho1] at K0 R0 G0 I0
  have HO1 := hid ho1
  have HK := hid K0
  have HR := hid R0
  have HG := hid G0
  have HI0 := hid I0
  have HW := hid hW
  have HF := hid hf
  have RP : Hid (Calls Tryz.prog 26 #[.pointer (some ⟨X, 0, none⟩), .int .i64 6, .int .i64 f3] W fun e w' => e = .returned (.agg #[.int .i64 6, .int .i64 s.id, .int .i64 s.inc, .int .i64 f3, .int .i64 0, .int .i64 0, .string ⟨#[]⟩, .int .i64 0, .string ⟨#[]⟩]) ∧ Below W.heap.size W w') := hid (reply_any X s C D 6 f3 W I0.c)
  replace CL : Hid (∀ W, Calls Tryz.prog 35 #[.string f6] W fun e w' => e = .returned (.string f6) ∧ Below W.heap.size W w') := CL
  have q3 : W.cell? ⟨w.heap.size, 3, none⟩ = some (.int .i64 f3) := K0.q 3 _ rfl
  rw [vf]
  rw [← hf] at HK 
  clear h HI ho1 G0 I0 R0 K0 bW hW hW2 hf vf hk
  go_enter Tryz.func30, Tryz.ntmps30
  go_wp2_with fail
  rw [← HW.out]
  go_wp2_with fail
  refine RP.out.mono ?_
  rintro e w1 ⟨rfl, b1⟩
  have hs1 : w.heap.size ≤ w1.heap.size := Nat.le_trans HSZ.out b1.size
  obtain ⟨V1, hV1⟩ : ∃ V1, V1 = w1.alloc (.cells #[.int .i64 6, .int .i64 s.id, .int .i64 s.inc, .int .i64 f3, .int .i64 0, .int .i64 0, .string ⟨#[]⟩, .int .i64 0, .string ⟨#[]⟩] 28) := ⟨_, rfl⟩
  have C1 : KC V1 o1 w1.heap.size ⟨6, s.id, s.inc, f3, 0, 0, ⟨#[]⟩, 0, ⟨#[]⟩⟩ := by rw [hV1, HO1.out]; exact KC.start (w := w) hs1 ⟨6, s.id, s.inc, f3, 0, 0, ⟨#[]⟩, 0, ⟨#[]⟩⟩
  have bV : Below W.heap.size W V1.drew := by
    rw [hV1]
    exact below_drewN (b1.trans ((bel_alloc w1 _).mono b1.size)) 1
  obtain ⟨A, hA⟩ : ∃ A, A = w1.heap.size := ⟨_, rfl⟩
  have hAB : w.heap.size ≠ A := by
    have h1 := HK.out.lt
    have h2 := b1.size
    omega
  have hAw : w.heap.size + 1 ≠ A := by
    have h1 := HR.out.lt
    have h2 := b1.size
    omega
  rw [← hA] at C1
  have HC1 := hid (C1.below (W' := V1.drew) (below_drewN (Below.refl _ _) 1))
  have HAB := hid (And.intro hAB hAw)
  have HSA : Hid (w.heap.size ≤ A) := hid (by rw [hA]; exact hs1)
  have HBV := hid bV
  have HV1 := hid hV1
  have HA := hid hA
  clear hV1 hA C1 bV b1 hs1 hAB hAw RP q3
  go_wp2_with fail
  rw [← HV1.out, ← HA.out]
  have HK1 := hid (HK.out.below HBV.out)
  have HR1 := hid (HR.out.below HBV.out)
  have HI1 := hid (HI0.out.below HBV.out)
  have HG1 := hid (HG.out.trans (Fr.ofBelow TS o1 HBV.out))
  have SF : Hid (∀ V oo, KB V oo w.heap.size f → (V.cell? ⟨w.heap.size, 5, none⟩ = some (.int .i64 f5) ∧ V.cell? ⟨w.heap.size, 6, none⟩ = some (.string f6))) := hid (fun V oo k => ⟨k.q 5 _ (by rw [HF.out]; rfl), k.q 6 _ (by rw [HF.out]; rfl)⟩)
  have S0 := SF.out _ _ HK1.out
  clear HV1 HA HK HR HI0 HG HO1
  go_region_held3 (fun V => V.cell? ⟨w.heap.size, 5, none⟩ = some (.int .i64 f5) ∧ V.cell? ⟨w.heap.size, 6, none⟩ = some (.string f6))
    (first | with_reducible exact S0 | with_reducible exact S1 | with_reducible exact S2 | with_reducible exact S3)
    (first | (go_at_call 35; (with_reducible refine (CL.out _).mono ?_); rintro e w2 ⟨rfl, b2⟩; have C2 := HC1.out.below b2; have K2 := HK1.out.below b2; have R2 := HR1.out.below b2; have I2 := HI1.out.below b2; have G2 := HG1.out.trans (Fr.ofBelow TS o1 b2); have S1 := SF.out _ _ K2; have c5 : w2.cell? ⟨A, 5, none⟩ = some (.int .i64 0) := C2.k.q 5 _ rfl; have z5 := C2.z 5; have C3 := C2.set5 f5; have K3 := K2.seto (A := A) (j := 5) (v := .int .i64 f5) HAB.out.1; have S2 := SF.out _ _ K3; have c6 : (w2.setCell ⟨A, 5, none⟩ (.int .i64 f5)).cell? ⟨A, 6, none⟩ = some (.string ⟨#[]⟩) := C3.k.q 6 _ rfl; have z6 := C3.z 6; have C4 := C3.set6 f6; have K4 := K3.seto (A := A) (j := 6) (v := .string f6) HAB.out.1; have S3 := SF.out _ _ K4; have R4 := (R2.seto (A := A) (j := 5) (v := .int .i64 f5)).seto (A := A) (j := 6) (v := .string f6); have I4 := (I2.seto (A := A) (j := 5) (v := .int .i64 f5) C2.k.lb).seto (A := A) (j := 6) (v := .string f6) C2.k.lb; have hA0 := HSA.out; have G4 := (G2.setNew (a := ⟨A, 5, none⟩) hA0 (.int .i64 f5)).setNew (a := ⟨A, 6, none⟩) hA0 (.string f6); have HE4 := hid (And.intro C4 (And.intro K4 (And.intro R4 (And.intro I4 G4)))); clear C2 K2 R2 I2 G2 C3 K3 C4 K4 R4 I4 G4 b2))
  obtain ⟨V, hV⟩ : ∃ V, V = (w2.setCell ⟨A, 5, none⟩ (.int .i64 f5)).setCell ⟨A, 6, none⟩ (.string f6) := ⟨_, rfl⟩
  rw [← hV] at HE4 ⊢
  have HC := hid HE4.out.1
  have HKV := hid HE4.out.2.1
  have HRV := hid HE4.out.2.2.1
  have HIV := hid HE4.out.2.2.2.1
  have HGV := hid HE4.out.2.2.2.2
  clear HE4 hV S0 S1 S2 S3 c5 c6 z5 z6 SF HC1 HK1 HR1 HI1 HG1 HBV CL hA0
  have q0 : V.cell? ⟨w.heap.size, 0, none⟩ = some (.int .i64 2) := HKV.out.q 0 _ (by rw [HF.out]; rfl)
  have q1 : V.cell? ⟨w.heap.size, 1, none⟩ = some (.int .i64 f1) := HKV.out.q 1 _ (by rw [HF.out]; rfl)
  have q2 : V.cell? ⟨w.heap.size, 2, none⟩ = some (.int .i64 f2) := HKV.out.q 2 _ (by rw [HF.out]; rfl)
  have q3 : V.cell? ⟨w.heap.size, 3, none⟩ = some (.int .i64 f3) := HKV.out.q 3 _ (by rw [HF.out]; rfl)
  have q4 : V.cell? ⟨w.heap.size, 4, none⟩ = some (.int .i64 f4) := HKV.out.q 4 _ (by rw [HF.out]; rfl)
  have q5 : V.cell? ⟨w.heap.size, 5, none⟩ = some (.int .i64 f5) := HKV.out.q 5 _ (by rw [HF.out]; rfl)
  have q6 : V.cell? ⟨w.heap.size, 6, none⟩ = some (.string f6) := HKV.out.q 6 _ (by rw [HF.out]; rfl)
  have q7 : V.cell? ⟨w.heap.size, 7, none⟩ = some (.int .i64 f7) := HKV.out.q 7 _ (by rw [HF.out]; rfl)
  have q8 : V.cell? ⟨w.heap.size, 8, none⟩ = some (.string f8) := HKV.out.q 8 _ (by rw [HF.out]; rfl)
  replace PG : Hid (∀ W oo, IsPl W oo X s C D d → Calls Tryz.prog 37 #[.pointer (some ⟨X, 0, none⟩), .agg #[.int .i64 2, .int .i64 f1, .int .i64 f2, .int .i64 f3, .int .i64 f4, .int .i64 f5, .string f6, .int .i64 f7, .string f8]] W fun e w' => e = .returned (.tuple #[.int .i64 gv, .string gd, .bool gb]) ∧ ∃ o', IsPl w' o' X { s with z := zt } C D d ∧ Fr TS oo o' W w') := PG
  have PGV := hid (PG.out V o1 HIV.out)
  clear PG
  go_wp2_with fail
  refine PGV.out.mono ?_
  rintro e w3 ⟨rfl, o3, I3, G3⟩
  have C3 := HC.out.fr G3 nTS8
  have R3 := HRV.out.fr G3 nTS8
  have K3 := HKV.out.fr G3 nTS8
  have GG3 := HGV.out.trans G3
  have c7 : (w3).cell? ⟨A, 7, none⟩ = some (.int .i64 0) := C3.k.q 7 _ rfl
  have z7 := C3.z 7
  have Cx0 := C3.set7 gv
  have Rx0 := R3.seto (A := A) (j := 7) (v := .int .i64 gv)
  have Ix0 := I3.seto (A := A) (j := 7) (v := .int .i64 gv) C3.k.lb
  have Gx0 := GG3.setNew (a := ⟨A, 7, none⟩) HSA.out (.int .i64 gv)
  have c8 : (w3.setCell ⟨A, 7, none⟩ (.int .i64 gv)).cell? ⟨A, 8, none⟩ = some (.string ⟨#[]⟩) := Cx0.k.q 8 _ rfl
  have z8 := Cx0.z 8
  have Cx1 := Cx0.set8 gd
  have Rx1 := Rx0.seto (A := A) (j := 8) (v := .string gd)
  have Ix1 := Ix0.seto (A := A) (j := 8) (v := .string gd) C3.k.lb
  have Gx1 := Gx0.setNew (a := ⟨A, 8, none⟩) HSA.out (.string gd)
  obtain ⟨V4, hV4⟩ : ∃ V4, V4 = (w3.setCell ⟨A, 7, none⟩ (.int .i64 gv)).setCell ⟨A, 8, none⟩ (.string gd) := ⟨_, rfl⟩
  rw [← hV4] at Cx1 Rx1 Ix1 Gx1
  have HV4 := hid hV4
  have HC4 := hid Cx1
  have HR4 := hid Rx1
  have HI4 := hid Ix1
  have HG4 := hid Gx1
  clear hV4 Cx0 Rx0 Ix0 Gx0 Cx1 Rx1 Ix1 Gx1 C3 R3 K3 GG3 I3 G3 HC HRV HGV HIV HKV PGV q0 q1 q2 q3 q4 q5 q6 q7 q8
  go_upto_region 16 with fail
  rw [← HV4.out]
  have HE := hid (RB9.finp HR4.out HI4.out HG4.out (by omega) (⟨6, s.id, s.inc, f3, 0, f5, f6, gv, gd⟩ : F))
  obtain ⟨E, hE⟩ : ∃ E, E = ((⟨6, s.id, s.inc, f3, 0, f5, f6, gv, gd⟩ : F)).cs := ⟨_, rfl⟩
  have HEE := hid hE
  have HLA : Hid (E.length = 9) := hid (by rw [hE]; rfl)
  have HOA : Hid (∀ u ∈ E, u.oneCell' = true) := hid (by rw [hE]; exact fz_ones _)
  have HAL : Hid (E = [.int .i64 6, .int .i64 s.id, .int .i64 s.inc, .int .i64 f3, .int .i64 0, .int .i64 f5, .string f6, .int .i64 gv, .string gd]) := hid (by rw [hE]; rfl)
  rw [← hE] at HE
  have HE2 := hid HE.out.1
  have HRG := hid HE.out.2.1
  have HFN := hid HE.out.2.2
  have a0 := HC4.out.k.q 0 (.int .i64 6) rfl
  have a1 := HC4.out.k.q 1 (.int .i64 s.id) rfl
  have a2 := HC4.out.k.q 2 (.int .i64 s.inc) rfl
  have a3 := HC4.out.k.q 3 (.int .i64 f3) rfl
  have a4 := HC4.out.k.q 4 (.int .i64 0) rfl
  have a5 := HC4.out.k.q 5 (.int .i64 f5) rfl
  have a6 := HC4.out.k.q 6 (.string f6) rfl
  have a7 := HC4.out.k.q 7 (.int .i64 gv) rfl
  have a8 := HC4.out.k.q 8 (.string gd) rfl
  clear HE hE
  go_wp2_with ((with_reducible show wpList _ _ _ (Oper.mk none (Op.store 28 (.tmp 4) _) _ _ _ _ :: _) _ _); refine wpList_store_mid (by rfl) 28 (.tmp 4) (.tmp 63) (by rfl) (w.heap.size + 1) 0 E.toArray (by rfl) (by rw [HAL.out]; rfl) HE2.out (by rw [List.size_toArray, HLA.out]; kernel_rfl) (all_oneCell_toArray HOA.out) ?_; rw [show E.toArray.toList = E from rfl])
  refine bodyPost_ret (v := .agg E.toArray) (by simp [results, Tryz.results30]; exact loadz HRG.out HLA.out) rfl ?_
  refine ⟨?_, o3, HFN.out⟩
  rw [HEE.out]
  rfl
end Go.Proofs.YtfinaichajbnkaaGreatDoor
