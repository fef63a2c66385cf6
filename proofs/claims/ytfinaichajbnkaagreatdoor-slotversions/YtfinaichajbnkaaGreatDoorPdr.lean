/-
  drop: what stands there goes, unless it is of a later version.
-/
import Derived.Test.YtfinaichajbnkaaGreatDoorPgt
namespace Go.Proofs.YtfinaichajbnkaaGreatDoor
open Go.RowKit
open Wi (F enc fold unf lf sb OwnC RowF tab IsRd pk)

set_option maxRecDepth 100000 in
set_option maxHeartbeats 1000000 in
theorem pdrop_any (X : Nat) (s : Sl) (C : Nat) (D : Value) (d : List F) (f : F) (hr : f.role = 1 ∨ f.role = 2) (hk : f.key.size ≤ 1000000) (hv1 : -9223372036854775808 ≤ f.ver) (hv2 : f.ver ≤ 9223372036854775807) (w : World) (o : Nat → Nat × Nat) (h : IsPl w o X s C D d) :
    Calls Tryz.prog 38 #[.pointer (some ⟨X, 0, none⟩), f.v] w fun e w' => e = .returned (.tuple #[]) ∧ ∃ o', IsPl w' o' X { s with z := (s.drop f).2 } C D d ∧ Fr TS o o' w w' := by
  have NM := hid (keyOf_any f hr hk hv1 hv2)
  have HKS : Hid ((nm f).size ≤ 1000000000) := hid (by have := nm_le f hv1 hv2; omega)
  obtain ⟨km, hkm⟩ : ∃ km, nm f = km := ⟨_, rfl⟩
  have HKM := hid hkm
  have PG := hid (fun W oo (hS : IsPl W oo X s C D d) => pget_any X s C D d f hr hk hv1 hv2 W oo hS)
  rw [hkm] at NM HKS PG
  obtain ⟨g, hg⟩ : ∃ g, got s.z f = g := ⟨_, rfl⟩
  have HG := hid hg
  rw [hg] at PG
  have HI := hid h
  obtain ⟨W, hW⟩ : ∃ W, W = w.alloc (.cells f.cs.toArray 28) := ⟨_, rfl⟩
  have bW : Below w.heap.size w W := by rw [hW]; exact bel_alloc _ _
  have K0 : KB W (nwl o w.heap.size) w.heap.size f := by rw [hW]; exact KB.start w o f
  obtain ⟨o1, ho1⟩ : ∃ o1, o1 = nwl o w.heap.size := ⟨_, rfl⟩
  have G0 : Fr TS o o1 w W := by rw [ho1]; exact nwl_fr TS o bW
  have I0 : IsPl W o1 X s C D d := by rw [ho1]; exact HI.out.fr (nwl_fr (fun _ => False) o bW) (fun _ _ => id)
  rw [← ho1] at K0
  have PG1 := hid (PG.out W o1 I0)
  have HK := hid K0
  have HGG := hid G0
  have HI0 := hid I0
  clear h hr hkm hg HI I0 ho1 G0 bW PG
  obtain ⟨f0, f1, f2, f3, f4, f5, f6, f7, f8⟩ := f
  have vf : (⟨f0, f1, f2, f3, f4, f5, f6, f7, f8⟩ : F).v = .agg #[.int .i64 f0, .int .i64 f1, .int .i64 f2, .int .i64 f3, .int .i64 f4, .int .i64 f5, .string f6, .int .i64 f7, .string f8] := rfl
  rw [vf] at NM PG1 ⊢
  have HF : Hid (W = w.alloc (.cells #[.int .i64 f0, .int .i64 f1, .int .i64 f2, .int .i64 f3, .int .i64 f4, .int .i64 f5, .string f6, .int .i64 f7, .string f8] 28)) := hid hW
  obtain ⟨q0, q1, q2, q3, q4, q5, q6, q7, q8⟩ := K0.nine
  clear vf hW K0
  have HTN : Hid (g = none → s.z.touch km = s.z) := hid (fun e => by
    have h := HG.out
    rw [e] at h
    unfold got at h
    rw [HKM.out] at h
    unfold Sp.touch
    cases hf : fnd s.z.l km with
    | none => rfl
    | some i => rw [hf] at h; cases h)
  cases g with
  | none =>
    replace HTN := hid (HTN.out rfl)
    have HD : Hid ((s.drop ⟨f0, f1, f2, f3, f4, f5, f6, f7, f8⟩).2 = s.z) := hid (by unfold Sl.drop; rw [HG.out])
    rw [HD.out]
    replace PG1 : Hid (Calls Tryz.prog 37 #[.pointer (some ⟨X, 0, none⟩), .agg #[.int .i64 f0, .int .i64 f1, .int .i64 f2, .int .i64 f3, .int .i64 f4, .int .i64 f5, .string f6, .int .i64 f7, .string f8]] W fun e w' => e = .returned (.tuple #[.int .i64 0, .string ⟨#[]⟩, .bool false]) ∧ ∃ o', IsPl w' o' X { s with z := s.z.touch km } C D d ∧ Fr TS o1 o' W w') := PG1
    go_enter Tryz.func38, Tryz.ntmps38
    go_wp2_with fail
    rw [← HF.out]
    go_wp2_with fail
    refine PG1.out.mono ?_
    rintro e w1 ⟨rfl, o2, I1, g1⟩
    have R1 := hid (And.intro (HK.out.fr g1 nTS8) (And.intro I1 (HGG.out.trans g1)))
    obtain ⟨p0, p1, p2, p3, p4, p5, p6, p7, p8⟩ := R1.out.1.nine
    clear I1 g1 PG1
    go_wp2_with fail
    have HE := R1.out
    rw [HTN.out] at HE
    exact bodyPost_end (v := .tuple #[]) (by simp [results, Tryz.results38, go_sem]) rfl ⟨rfl, o2, HE.2.1, HE.2.2⟩
  | some g =>
    obtain ⟨v, dd⟩ := g
    replace PG1 : Hid (Calls Tryz.prog 37 #[.pointer (some ⟨X, 0, none⟩), .agg #[.int .i64 f0, .int .i64 f1, .int .i64 f2, .int .i64 f3, .int .i64 f4, .int .i64 f5, .string f6, .int .i64 f7, .string f8]] W fun e w' => e = .returned (.tuple #[.int .i64 v, .string dd, .bool true]) ∧ ∃ o', IsPl w' o' X { s with z := s.z.touch km } C D d ∧ Fr TS o1 o' W w') := PG1
    by_cases hc : v ≤ f7
    · have HD : Hid ((s.drop ⟨f0, f1, f2, f3, f4, f5, f6, f7, f8⟩).2 = (s.z.touch km).drop km) := hid (by unfold Sl.drop; rw [HG.out, HKM.out]; exact if_pos hc)
      rw [HD.out]
      have d0 : decide (v ≤ f7) = true := by simp [hc]
      have SD := hid (fun W oo (hS : IsSt W oo C (s.z.touch km)) => sdrop_any C (s.z.touch km) km (Nat.le_trans HKS.out (by omega)) W oo hS)
      clear hc HG HTN
      go_enter Tryz.func38, Tryz.ntmps38
      go_wp2_with fail
      rw [← HF.out]
      go_wp2_with fail
      refine PG1.out.mono ?_
      rintro e w1 ⟨rfl, o2, I1, g1⟩
      have R1 := hid (And.intro (HK.out.fr g1 nTS8) (And.intro I1 (HGG.out.trans g1)))
      obtain ⟨p0, p1, p2, p3, p4, p5, p6, p7, p8⟩ := R1.out.1.nine
      clear I1 g1 PG1
      have SQ : Hid (∀ V oo (z' : Sp), KB V oo w.heap.size ⟨f0, f1, f2, f3, f4, f5, f6, f7, f8⟩ → IsPl V oo X { s with z := z' } C D d → (V.cell? ⟨X, 6, none⟩ = some (.pointer (some ⟨C, 0, none⟩)) ∧ V.cell? ⟨w.heap.size, 0, none⟩ = some (.int .i64 f0) ∧ V.cell? ⟨w.heap.size, 1, none⟩ = some (.int .i64 f1) ∧ V.cell? ⟨w.heap.size, 2, none⟩ = some (.int .i64 f2) ∧ V.cell? ⟨w.heap.size, 3, none⟩ = some (.int .i64 f3) ∧ V.cell? ⟨w.heap.size, 4, none⟩ = some (.int .i64 f4) ∧ V.cell? ⟨w.heap.size, 5, none⟩ = some (.int .i64 f5) ∧ V.cell? ⟨w.heap.size, 6, none⟩ = some (.string f6) ∧ V.cell? ⟨w.heap.size, 7, none⟩ = some (.int .i64 f7) ∧ V.cell? ⟨w.heap.size, 8, none⟩ = some (.string f8))) := hid (fun V oo z' k i => ⟨i.c.c6, k.nine⟩)
      have bdr : Below w1.heap.size w1 w1.drew := below_drewN (Below.refl _ w1) 1
      have R2 := hid (And.intro (R1.out.1.below bdr) (And.intro (R1.out.2.1.below bdr) (R1.out.2.2.trans (Fr.ofBelow TS o2 bdr))))
      have S0 := SQ.out _ _ _ R2.out.1 R2.out.2.1
      go_wp2_with fail
      go_region_held3 (fun V => V.cell? ⟨X, 6, none⟩ = some (.pointer (some ⟨C, 0, none⟩)) ∧ V.cell? ⟨w.heap.size, 0, none⟩ = some (.int .i64 f0) ∧ V.cell? ⟨w.heap.size, 1, none⟩ = some (.int .i64 f1) ∧ V.cell? ⟨w.heap.size, 2, none⟩ = some (.int .i64 f2) ∧ V.cell? ⟨w.heap.size, 3, none⟩ = some (.int .i64 f3) ∧ V.cell? ⟨w.heap.size, 4, none⟩ = some (.int .i64 f4) ∧ V.cell? ⟨w.heap.size, 5, none⟩ = some (.int .i64 f5) ∧ V.cell? ⟨w.heap.size, 6, none⟩ = some (.string f6) ∧ V.cell? ⟨w.heap.size, 7, none⟩ = some (.int .i64 f7) ∧ V.cell? ⟨w.heap.size, 8, none⟩ = some (.string f8))
        (first | with_reducible exact S0 | with_reducible exact T1 | with_reducible exact T2)
        (first
          | (go_at_call 48; (with_reducible refine (NM.out _).mono ?_); rintro e w2 ⟨rfl, b2⟩; have R3 := hid (And.intro (R2.out.1.below b2) (And.intro (R2.out.2.1.below b2) (R2.out.2.2.trans (Fr.ofBelow TS o2 b2)))); have T1 := SQ.out _ _ _ R3.out.1 R3.out.2.1; clear b2)
          | (go_at_call 53; (with_reducible refine (SD.out _ _ R3.out.2.1.st).mono ?_); rintro e w3 ⟨rfl, o3, hS3, f3'⟩; have R4 := hid (And.intro (R3.out.1.fr f3' nTS8) (And.intro (R3.out.2.1.store f3' nTS10 hS3) (R3.out.2.2.trans f3'))); have T2 := SQ.out _ _ _ R4.out.1 R4.out.2.1; clear f3' hS3))
      go_wp2_with fail
      exact bodyPost_end (v := .tuple #[]) (by simp [results, Tryz.results38, go_sem]) rfl ⟨rfl, o3, R4.out.2.1, R4.out.2.2⟩
    · have HD : Hid ((s.drop ⟨f0, f1, f2, f3, f4, f5, f6, f7, f8⟩).2 = s.z.touch km) := hid (by unfold Sl.drop; rw [HG.out, HKM.out]; exact if_neg hc)
      rw [HD.out]
      have d0 : decide (v ≤ f7) = false := by simp; omega
      clear hc HG HTN
      go_enter Tryz.func38, Tryz.ntmps38
      go_wp2_with fail
      rw [← HF.out]
      go_wp2_with fail
      refine PG1.out.mono ?_
      rintro e w1 ⟨rfl, o2, I1, g1⟩
      have R1 := hid (And.intro (HK.out.fr g1 nTS8) (And.intro I1 (HGG.out.trans g1)))
      obtain ⟨p0, p1, p2, p3, p4, p5, p6, p7, p8⟩ := R1.out.1.nine
      clear I1 g1 PG1
      go_wp2_with fail
      exact bodyPost_end (v := .tuple #[]) (by simp [results, Tryz.results38, go_sem]) rfl ⟨rfl, o2, R1.out.2.1, R1.out.2.2⟩
end Go.Proofs.YtfinaichajbnkaaGreatDoor
