/-
  get: what stands there, touched.
-/
import Derived.Test.YtfinaichajbnkaaGreatDoorPkc
namespace Go.Proofs.YtfinaichajbnkaaGreatDoor
open Go.RowKit
open Wi (F enc fold unf lf sb OwnC RowF tab IsRd pk)

set_option maxRecDepth 100000 in
set_option maxHeartbeats 1000000 in
theorem pget_any (X : Nat) (s : Sl) (C : Nat) (D : Value) (d : List F) (f : F) (hr : f.role = 1 ∨ f.role = 2) (hk : f.key.size ≤ 1000000) (hv1 : -9223372036854775808 ≤ f.ver) (hv2 : f.ver ≤ 9223372036854775807) (w : World) (o : Nat → Nat × Nat) (h : IsPl w o X s C D d) :
    Calls Tryz.prog 37 #[.pointer (some ⟨X, 0, none⟩), f.v] w fun e w' => e = .returned (.tuple #[.int .i64 (gV (got s.z f)), .string (gD (got s.z f)), .bool (got s.z f).isSome]) ∧ ∃ o', IsPl w' o' X { s with z := s.z.touch (nm f) } C D d ∧ Fr TS o o' w w' := by
  have NM := hid (keyOf_any f hr hk hv1 hv2)
  have HKS : Hid ((nm f).size ≤ 140737488355328) := hid (by have := nm_le f hv1 hv2; omega)
  obtain ⟨km, hkm⟩ : ∃ km, nm f = km := ⟨_, rfl⟩
  have HG : Hid (got s.z f = (fnd s.z.l km).map fun i => ct i.d) := hid (by unfold got; rw [hkm])
  rw [hkm] at NM HKS
  rw [HG.out, hkm]
  have HI := hid h
  have SG := hid (fun W oo (hS : IsSt W oo C s.z) => sget_any C s.z km HKS.out W oo hS)
  clear h hr hk hv1 hv2 HG hkm
  obtain ⟨f0, f1, f2, f3, f4, f5, f6, f7, f8⟩ := f
  have vf : (⟨f0, f1, f2, f3, f4, f5, f6, f7, f8⟩ : F).v = .agg #[.int .i64 f0, .int .i64 f1, .int .i64 f2, .int .i64 f3, .int .i64 f4, .int .i64 f5, .string f6, .int .i64 f7, .string f8] := rfl
  rw [vf] at NM ⊢
  obtain ⟨W, hW⟩ : ∃ W, W = w.alloc (.cells #[.int .i64 f0, .int .i64 f1, .int .i64 f2, .int .i64 f3, .int .i64 f4, .int .i64 f5, .string f6, .int .i64 f7, .string f8] 28) := ⟨_, rfl⟩
  have bW : Below w.heap.size w W := by rw [hW]; exact bel_alloc _ _
  have K0 : KB W.drew (nwl o w.heap.size) w.heap.size ⟨f0, f1, f2, f3, f4, f5, f6, f7, f8⟩ := by rw [hW]; exact (KB.start w o ⟨f0, f1, f2, f3, f4, f5, f6, f7, f8⟩).below (below_drewN (Below.refl _ _) 1)
  obtain ⟨o1, ho1⟩ : ∃ o1, o1 = nwl o w.heap.size := ⟨_, rfl⟩
  have G0 : Fr TS o o1 w W.drew := by rw [ho1]; exact nwl_fr TS o (below_drewN bW 1)
  have I0 : IsPl W.drew o1 X s C D d := by rw [ho1]; exact HI.out.fr (nwl_fr (fun _ => False) o (below_drewN bW 1)) (fun _ _ => id)
  rw [← ho1] at K0
  have SQ : Hid (∀ V oo (z' : Sp), KB V oo w.heap.size ⟨f0, f1, f2, f3, f4, f5, f6, f7, f8⟩ → IsPl V oo X { s with z := z' } C D d → (V.cell? ⟨X, 6, none⟩ = some (.pointer (some ⟨C, 0, none⟩)) ∧ V.cell? ⟨w.heap.size, 0, none⟩ = some (.int .i64 f0) ∧ V.cell? ⟨w.heap.size, 1, none⟩ = some (.int .i64 f1) ∧ V.cell? ⟨w.heap.size, 2, none⟩ = some (.int .i64 f2) ∧ V.cell? ⟨w.heap.size, 3, none⟩ = some (.int .i64 f3) ∧ V.cell? ⟨w.heap.size, 4, none⟩ = some (.int .i64 f4) ∧ V.cell? ⟨w.heap.size, 5, none⟩ = some (.int .i64 f5) ∧ V.cell? ⟨w.heap.size, 6, none⟩ = some (.string f6) ∧ V.cell? ⟨w.heap.size, 7, none⟩ = some (.int .i64 f7) ∧ V.cell? ⟨w.heap.size, 8, none⟩ = some (.string f8))) := hid (fun V oo z' k i => ⟨i.c.c6, k.nine⟩)
  have S0 := SQ.out _ _ _ K0 I0
  have HR := hid (And.intro K0 (And.intro I0 G0))
  have HW := hid hW
  obtain ⟨x, hx⟩ : ∃ x, fnd s.z.l km = x := ⟨_, rfl⟩
  have HXX := hid hx
  rw [hx] at SG ⊢
  clear vf hW bW K0 G0 I0 ho1 HI hx
  cases x with
  | none =>
    replace SG : Hid (∀ W oo, IsSt W oo C s.z → Calls Tryz.prog 49 #[.pointer (some ⟨C, 0, none⟩), .string km] W fun e w' => e = .returned (.tuple #[.string ⟨#[]⟩, .bool false]) ∧ IsSt w' oo C (s.z.touch km) ∧ Fr TS oo oo W w') := SG
    go_enter Tryz.func37, Tryz.ntmps37
    go_wp2_with fail
    rw [← HW.out]
    go_region_held3 (fun V => V.cell? ⟨X, 6, none⟩ = some (.pointer (some ⟨C, 0, none⟩)) ∧ V.cell? ⟨w.heap.size, 0, none⟩ = some (.int .i64 f0) ∧ V.cell? ⟨w.heap.size, 1, none⟩ = some (.int .i64 f1) ∧ V.cell? ⟨w.heap.size, 2, none⟩ = some (.int .i64 f2) ∧ V.cell? ⟨w.heap.size, 3, none⟩ = some (.int .i64 f3) ∧ V.cell? ⟨w.heap.size, 4, none⟩ = some (.int .i64 f4) ∧ V.cell? ⟨w.heap.size, 5, none⟩ = some (.int .i64 f5) ∧ V.cell? ⟨w.heap.size, 6, none⟩ = some (.string f6) ∧ V.cell? ⟨w.heap.size, 7, none⟩ = some (.int .i64 f7) ∧ V.cell? ⟨w.heap.size, 8, none⟩ = some (.string f8))
      (first | with_reducible exact S0 | with_reducible exact T1 | with_reducible exact T2)
      (first
        | (go_at_call 48; (with_reducible refine (NM.out _).mono ?_); rintro e w1 ⟨rfl, b1⟩; have R1 := hid (And.intro (HR.out.1.below b1) (And.intro (HR.out.2.1.below b1) (HR.out.2.2.trans (Fr.ofBelow TS o1 b1)))); have T1 := SQ.out _ _ _ R1.out.1 R1.out.2.1; clear b1)
        | (go_at_call 49; (with_reducible refine (SG.out _ _ R1.out.2.1.st).mono ?_); rintro e w2 ⟨rfl, hS2, f2⟩; have R2 := hid (And.intro (R1.out.1.fr f2 nTS8) (And.intro (R1.out.2.1.store f2 nTS10 hS2) (R1.out.2.2.trans f2))); have T2 := SQ.out _ _ _ R2.out.1 R2.out.2.1; clear f2 hS2))
    go_wp2_with fail
    refine bodyPost_ret (v := .tuple #[.int .i64 0, .string ⟨#[]⟩, .bool false]) (by simp [results, Tryz.results37, go_sem]) rfl ?_
    exact ⟨rfl, o1, R2.out.2.1, R2.out.2.2⟩
  | some i =>
    replace SG : Hid (∀ W oo, IsSt W oo C s.z → Calls Tryz.prog 49 #[.pointer (some ⟨C, 0, none⟩), .string km] W fun e w' => e = .returned (.tuple #[.string i.d, .bool true]) ∧ IsSt w' oo C (s.z.touch km) ∧ Fr TS oo oo W w') := SG
    have hdz : i.d.size ≤ 65536 := by
      have := HR.out.2.1.st.ok.fit i (fnd_some HXX.out).1
      rw [ByteArray.size_append] at this; omega
    have hle := ct_bd i.d
    obtain ⟨n, hn⟩ : ∃ n, n = ctN i.d := ⟨_, rfl⟩
    rw [← hn] at hle
    have hat : Hid (0 + (pk (Wi.bt i.d) i.d.size 0 0).2.1 = n) := hid (by rw [hn, Nat.zero_add]; rfl)
    have HCT : Hid (ct i.d = (unf (pk (Wi.bt i.d) i.d.size 0 0).1, i.d.extract n i.d.size)) := hid (by rw [hn]; rfl)
    obtain ⟨v, hv⟩ : ∃ v, v = unf (pk (Wi.bt i.d) i.d.size 0 0).1 := ⟨_, rfl⟩
    have HV := hid hv
    have h1 : (0 : Int) ≤ (n : Int) := by omega
    have h2 : (n : Int) ≤ (i.d.size : Int) := by omega
    clear hn hv
    go_enter Tryz.func37, Tryz.ntmps37
    go_wp2_with fail
    rw [← HW.out]
    go_region_held3 (fun V => V.cell? ⟨X, 6, none⟩ = some (.pointer (some ⟨C, 0, none⟩)) ∧ V.cell? ⟨w.heap.size, 0, none⟩ = some (.int .i64 f0) ∧ V.cell? ⟨w.heap.size, 1, none⟩ = some (.int .i64 f1) ∧ V.cell? ⟨w.heap.size, 2, none⟩ = some (.int .i64 f2) ∧ V.cell? ⟨w.heap.size, 3, none⟩ = some (.int .i64 f3) ∧ V.cell? ⟨w.heap.size, 4, none⟩ = some (.int .i64 f4) ∧ V.cell? ⟨w.heap.size, 5, none⟩ = some (.int .i64 f5) ∧ V.cell? ⟨w.heap.size, 6, none⟩ = some (.string f6) ∧ V.cell? ⟨w.heap.size, 7, none⟩ = some (.int .i64 f7) ∧ V.cell? ⟨w.heap.size, 8, none⟩ = some (.string f8))
      (first | with_reducible exact S0 | with_reducible exact T1 | with_reducible exact T2)
      (first
        | (go_at_call 48; (with_reducible refine (NM.out _).mono ?_); rintro e w1 ⟨rfl, b1⟩; have R1 := hid (And.intro (HR.out.1.below b1) (And.intro (HR.out.2.1.below b1) (HR.out.2.2.trans (Fr.ofBelow TS o1 b1)))); have T1 := SQ.out _ _ _ R1.out.1 R1.out.2.1; clear b1)
        | (go_at_call 49; (with_reducible refine (SG.out _ _ R1.out.2.1.st).mono ?_); rintro e w2 ⟨rfl, hS2, f2⟩; have R2 := hid (And.intro (R1.out.1.fr f2 nTS8) (And.intro (R1.out.2.1.store f2 nTS10 hS2) (R1.out.2.2.trans f2))); have T2 := SQ.out _ _ _ R2.out.1 R2.out.2.1; clear f2 hS2))
    obtain ⟨cap, w3, hc, hcap, r3, b3⟩ := conv_bytes w2 i.d
    have HRD := hid (Wi.read_any (some ⟨w2.heap.size, 0, none⟩) i.d.size cap (Wi.bt i.d) (Wi.bt_lt i.d) (by omega) w3 r3)
    have HB3 := hid b3
    clear r3 b3
    go_wp2_with fail
    refine HRD.out.mono ?_
    rintro e w4 ⟨R, rfl, hR, I4, b4⟩
    have HB4 := hid (HB3.out.trans (b4.mono HB3.out.size))
    have HR4 : Hid (w2.heap.size ≤ R) := hid (Nat.le_trans HB3.out.size hR)
    have HN := hid (Wi.rdnum_any R i.d.size 0 0 (Wi.bt i.d) w4 I4)
    rw [hat.out] at HN
    clear HRD HB3 hR I4 b4 hc
    go_wp2_with fail
    refine HN.out.mono ?_
    rintro e w5 ⟨rfl, I5, T5⟩
    rw [← HV.out]
    have HB5 := hid (T5.below HB4.out HR4.out)
    have hp := I5.pl
    clear HN HB4 I5 T5
    go_wp2_with fail
    go_quiet ((go_at_call 52; exact Calls.quiet_of_same (prdat_any R n _ (by simpa using hp))))
    go_wp2_with fail
    refine bodyPost_ret (v := .tuple #[.int .i64 v, .string (i.d.extract n i.d.size), .bool true]) (by simp [results, Tryz.results37, go_sem]) rfl ?_
    have HBX := below_drewN HB5.out 1
    refine ⟨?_, o1, R2.out.2.1.below (below_drewN HB5.out _), R2.out.2.2.trans (Fr.ofBelow TS o1 (below_drewN HB5.out _))⟩
    show _ = Ending.returned (.tuple #[.int .i64 (ct i.d).1, .string (ct i.d).2, .bool true])
    rw [HCT.out, ← HV.out]
end Go.Proofs.YtfinaichajbnkaaGreatDoor
