/-
  ITEMRUNS walked.
-/
import Derived.Test.YtbflcnghpkmcoaaCalc
namespace Go.Proofs.Ytbflcnghpkmcoaa
open Go.RowKit

def o0 : Nat → Nat × Nat := fun _ => (0, 0)
theorem o0_ok (b : Nat) : (o0 b).1 ≠ 2 ∧ (o0 b).1 ≠ 1 := ⟨show (0 : Nat) ≠ 2 by decide, show (0 : Nat) ≠ 1 by decide⟩
/-- A list written out. -/
theorem lit_own (w : World) (o : Nat → Nat × Nat) (l : List ByteArray) (hl : l.length ≤ 1000000) : OwnK (w.alloc (.cells (strc l).toArray 9)) (lab o w.heap.size (8, 0)) (8, 0) 1 (.slice (some ⟨w.heap.size, 0, none⟩) l.length l.length) l.length (strc l) := by
  have := own_new (w := w) (o := o) (t := (8, 0)) (k := 1) (n := l.length) (cap := l.length) (e := 9) (strc l) #[] (by rw [strc_length]; omega) (fun u hu => by obtain ⟨k, _, rfl⟩ := List.mem_map.1 hu; rfl) (Nat.le_refl _) (by unfold maxLen; omega) (by simp)
  rw [Array.append_empty] at this
  exact this
theorem two_classes {n : Nat} (h : ∀ i, i < n ↔ sz i ≤ 128) : n = 2 := by
  have h1 := (h 1).2 (by decide)
  have h2 : ¬ 2 < n := fun x => absurd ((h 2).1 x) (by decide)
  omega
set_option maxRecDepth 100000 in
set_option maxHeartbeats 2000000 in
theorem runs_any (w : World) : Calls Try.prog 3 #[] w fun e w' => e = .returned (.bool true) ∧ Below w.heap.size w w' := by
  go_enter Try.func3, Try.ntmps3
  go_wp2_with fail
  refine (snew_yes 1 128 1 128 rfl rfl (by omega) (by omega) (by omega) (by omega) _ o0 (fun b _ => o0_ok b)).mono ?_
  rintro e w1 ⟨X, rfl, o1, n, hn, I1, F1⟩
  have hn2 := two_classes hn
  subst hn2
  have HI1 : Hid (IsSt w1 o1 X R0) := I1
  have HF1 : Hid (Fr TS o0 o1 w w1) := F1.mono (fun _ h => h.elim)
  clear I1 F1 hn
  go_wp2_with fail
  refine (sput_any X R0 kA e0 false (by decide) (by decide) _ o1 HI1.out).mono ?_
  rintro e w2 ⟨V2, o2, rfl, _, I2, F2⟩
  have HI2 : Hid (IsSt w2 o2 X R1) := I2
  have HF2 : Hid (Fr TS o0 o2 w w2) := HF1.out.trans F2
  obtain ⟨n2, hn2⟩ : ∃ x, x = (R0.put kA e0 false).2.1 := ⟨_, rfl⟩
  rw [← hn2]
  clear I2 F2 HI1 HF1 hn2
  go_wp2_with fail
  refine (sput_any X R1 kB e0 false (by decide) (by decide) _ o2 HI2.out).mono ?_
  rintro e w3 ⟨V3, o3, rfl, _, I3, F3⟩
  have HI3 : Hid (IsSt w3 o3 X R2) := I3
  have HF3 : Hid (Fr TS o0 o3 w w3) := HF2.out.trans F3
  obtain ⟨n3, hn3⟩ : ∃ x, x = (R1.put kB e0 false).2.1 := ⟨_, rfl⟩
  rw [← hn3]
  clear I3 F3 HI2 HF2 hn3
  go_wp2_with fail
  refine (sget_any X R2 kA (by decide) _ o3 HI3.out).mono ?_
  rintro e w4 ⟨rfl, I4, F4⟩
  have HI4 : Hid (IsSt w4 o3 X R3) := I4
  have HF4 : Hid (Fr TS o0 o3 w w4) := HF3.out.trans F4
  obtain ⟨s4, hs4⟩ : ∃ x, x = tel (fnd R2.l kA) := ⟨_, rfl⟩
  obtain ⟨b4, hb4⟩ : ∃ x, x = (fnd R2.l kA).isSome := ⟨_, rfl⟩
  rw [← hs4, ← hb4]
  clear I4 F4 HI3 HF3 hs4 hb4
  go_wp2_with fail
  refine (sput_any X R3 kC e0 false (by decide) (by decide) _ o3 HI4.out).mono ?_
  rintro e w5 ⟨V5, o5, rfl, O5, I5, F5⟩
  rw [run4.1] at O5
  rw [run4.2]
  obtain ⟨a5, c5, rfl, _⟩ := O5.form
  have HI5 : Hid (IsSt w5 o5 X R4) := I5
  have HF5 : Hid (Fr TS o0 o5 w w5) := HF4.out.trans F5
  have HO5 : Hid (OwnK w5 o5 (7, 0) 1 (.slice a5 1 c5) 1 (strc [kB])) := O5
  rw [show [kB].length = 1 from rfl]
  clear I5 F5 HI4 HF4 O5
  go_wp2_with fail
  refine (keys_any X R4 _ o5 HI5.out).mono ?_
  rintro e w6 ⟨V6, o6, rfl, O6, I6, F6⟩
  rw [keys4] at O6
  obtain ⟨a6, c6, rfl, _⟩ := O6.form
  have HI6 : Hid (IsSt w6 o6 X R4) := I6
  have HF6 : Hid (Fr TS o0 o6 w w6) := HF5.out.trans (F6.mono (fun _ h => h.elim))
  have HL6 : Hid (OwnK w6 o6 (7, 0) 1 (.slice a5 1 c5) 1 (strc [kB]) ∧ OwnK w6 o6 (7, 0) 1 (.slice a6 2 c6) 2 (strc [kC, kA])) := ⟨HO5.out.fr F6 (fun x => x), O6⟩
  rw [show [kC, kA].length = 2 from rfl]
  clear I6 F6 HI5 HF5 O6 HO5
  go_wp2_with fail
  refine (spin_any X R4 kA true (by decide) _ o6 HI6.out).mono ?_
  rintro e w7 ⟨rfl, I7, F7⟩
  have HI7 : Hid (IsSt w7 o6 X R5) := I7
  have HF7 : Hid (Fr TS o0 o6 w w7) := HF6.out.trans F7
  have HL7 : Hid (OwnK w7 o6 (7, 0) 1 (.slice a5 1 c5) 1 (strc [kB]) ∧ OwnK w7 o6 (7, 0) 1 (.slice a6 2 c6) 2 (strc [kC, kA])) := ⟨HL6.out.1.fr F7 nT7, HL6.out.2.fr F7 nT7⟩
  obtain ⟨b7, hb7⟩ : ∃ x, x = (fnd R4.l kA).isSome := ⟨_, rfl⟩
  rw [← hb7]
  clear I7 F7 HI6 HF6 HL6 hb7
  go_wp2_with fail
  refine (spin_any X R5 kC true (by decide) _ o6 HI7.out).mono ?_
  rintro e w8 ⟨rfl, I8, F8⟩
  have HI8 : Hid (IsSt w8 o6 X R6) := I8
  have HF8 : Hid (Fr TS o0 o6 w w8) := HF7.out.trans F8
  have HL8 : Hid (OwnK w8 o6 (7, 0) 1 (.slice a5 1 c5) 1 (strc [kB]) ∧ OwnK w8 o6 (7, 0) 1 (.slice a6 2 c6) 2 (strc [kC, kA])) := ⟨HL7.out.1.fr F8 nT7, HL7.out.2.fr F8 nT7⟩
  obtain ⟨b8, hb8⟩ : ∃ x, x = (fnd R5.l kC).isSome := ⟨_, rfl⟩
  rw [← hb8]
  clear I8 F8 HI7 HF7 HL7 hb8
  go_wp2_with fail
  refine (sput_any X R6 kD e0 false (by decide) (by decide) _ o6 HI8.out).mono ?_
  rintro e w9 ⟨V9, o9, rfl, _, I9, F9⟩
  rw [run7]
  have HI9 : Hid (IsSt w9 o9 X R7) := I9
  have HF9 : Hid (Fr TS o0 o9 w w9) := HF8.out.trans F9
  have HL9 : Hid (OwnK w9 o9 (7, 0) 1 (.slice a5 1 c5) 1 (strc [kB]) ∧ OwnK w9 o9 (7, 0) 1 (.slice a6 2 c6) 2 (strc [kC, kA])) := ⟨HL8.out.1.fr F9 nT7, HL8.out.2.fr F9 nT7⟩
  obtain ⟨wz, hm1, hm2, Bz⟩ := make_zs w9 200 200 rfl (by omega)
  have HIz : Hid (IsSt wz o9 X R7) := HI9.out.below Bz
  have HFz : Hid (Fr TS o0 o9 w wz) := HF9.out.trans (Fr.ofBelow _ o9 Bz)
  have HLz : Hid (OwnK wz o9 (7, 0) 1 (.slice a5 1 c5) 1 (strc [kB]) ∧ OwnK wz o9 (7, 0) 1 (.slice a6 2 c6) 2 (strc [kC, kA])) := ⟨HL9.out.1.below Bz, HL9.out.2.below Bz⟩
  clear I9 F9 HI8 HF8 HL8 HI9 HF9 HL9 Bz
  go_wp2_with fail
  refine (sput_any X R7 kE (zs 200) false (by decide) (by rw [zs_size]; omega) _ o9 HIz.out).mono ?_
  rintro e w10 ⟨V10, o10, rfl, _, I10, F10⟩
  rw [run8]
  have HI10 : Hid (IsSt w10 o10 X R8) := I10
  have HF10 : Hid (Fr TS o0 o10 w w10) := HFz.out.trans F10
  have HL10 : Hid (OwnK w10 o10 (7, 0) 1 (.slice a5 1 c5) 1 (strc [kB]) ∧ OwnK w10 o10 (7, 0) 1 (.slice a6 2 c6) 2 (strc [kC, kA])) := ⟨HLz.out.1.fr F10 nT7, HLz.out.2.fr F10 nT7⟩
  clear I10 F10 HIz HFz HLz hm1 hm2
  go_wp2_with fail
  refine (sdrop_any X R8 kA (by decide) _ o10 HI10.out).mono ?_
  rintro e w11 ⟨rfl, o11, I11, F11⟩
  have HI11 : Hid (IsSt w11 o11 X R9) := I11
  have HF11 : Hid (Fr TS o0 o11 w w11) := HF10.out.trans F11
  have HL11 : Hid (OwnK w11 o11 (7, 0) 1 (.slice a5 1 c5) 1 (strc [kB]) ∧ OwnK w11 o11 (7, 0) 1 (.slice a6 2 c6) 2 (strc [kC, kA])) := ⟨HL10.out.1.fr F11 nT7, HL10.out.2.fr F11 nT7⟩
  obtain ⟨b11, hb11⟩ : ∃ x, x = (fnd R8.l kA).isSome := ⟨_, rfl⟩
  rw [← hb11]
  clear I11 F11 HI10 HF10 HL10 hb11
  go_wp2_with fail
  refine (sput_any X R9 kD e0 false (by decide) (by decide) _ o11 HI11.out).mono ?_
  rintro e w12 ⟨V12, o12, rfl, _, I12, F12⟩
  have HI12 : Hid (IsSt w12 o12 X R10) := I12
  have HF12 : Hid (Fr TS o0 o12 w w12) := HF11.out.trans F12
  have HL12 : Hid (OwnK w12 o12 (7, 0) 1 (.slice a5 1 c5) 1 (strc [kB]) ∧ OwnK w12 o12 (7, 0) 1 (.slice a6 2 c6) 2 (strc [kC, kA])) := ⟨HL11.out.1.fr F12 nT7, HL11.out.2.fr F12 nT7⟩
  obtain ⟨n12, hn12⟩ : ∃ x, x = (R9.put kD e0 false).2.1 := ⟨_, rfl⟩
  rw [← hn12]
  clear I12 F12 HI11 HF11 HL11 hn12
  go_wp2_with fail
  have B13 : Below w12.heap.size w12 (w12.alloc (.cells #[.string ⟨#[98]⟩] 9)) := (Below.refl _ _).alloc (Nat.le_refl _) _
  refine (same_any [kB] (by decide) _ (HL12.out.1.below B13) (lit_own w12 o0 [kB] (by decide))).mono ?_
  rintro e w13 ⟨rfl, B13'⟩
  have BB13 : Below w12.heap.size w12 w13 := B13.trans (B13'.mono B13.size)
  have HI13 : Hid (IsSt w13 o12 X R10 ∧ OwnK w13 o12 (7, 0) 1 (.slice a6 2 c6) 2 (strc [kC, kA]) ∧ Fr TS o0 o12 w w13) := ⟨HI12.out.below BB13, HL12.out.2.below BB13, HF12.out.trans (Fr.ofBelow _ o12 BB13)⟩
  clear B13 B13' BB13 HI12 HF12 HL12
  go_wp2_with fail
  have B14 : Below w13.heap.size w13 (w13.alloc (.cells #[.string ⟨#[99]⟩, .string ⟨#[97]⟩] 9)) := (Below.refl _ _).alloc (Nat.le_refl _) _
  refine (same_any [kC, kA] (by decide) _ (HI13.out.2.1.below B14) (lit_own w13 o0 [kC, kA] (by decide))).mono ?_
  rintro e w14 ⟨rfl, B14'⟩
  have BB14 : Below w13.heap.size w13 w14 := B14.trans (B14'.mono B14.size)
  have HI14 : Hid (IsSt w14 o12 X R10 ∧ Fr TS o0 o12 w w14) := ⟨HI13.out.1.below BB14, HI13.out.2.2.trans (Fr.ofBelow _ o12 BB14)⟩
  clear B14 B14' BB14 HI13
  go_wp2_with fail
  refine (keys_any X R10 _ o12 HI14.out.1).mono ?_
  rintro e w15 ⟨V15, o15, rfl, O15, I15, F15⟩
  rw [keys10] at O15
  obtain ⟨a15, c15, rfl, _⟩ := O15.form
  have HF15 : Hid (Fr TS o0 o15 w w15) := HI14.out.2.trans (F15.mono (fun _ h => h.elim))
  have HO15 : Hid (OwnK w15 o15 (7, 0) 1 (.slice a15 2 c15) 2 (strc [kD, kC])) := O15
  rw [show [kD, kC].length = 2 from rfl]
  clear I15 F15 HI14 O15
  go_wp2_with fail
  have B16 : Below w15.heap.size w15 (w15.alloc (.cells #[.string ⟨#[100]⟩, .string ⟨#[99]⟩] 9)) := (Below.refl _ _).alloc (Nat.le_refl _) _
  refine (same_any [kD, kC] (by decide) _ (HO15.out.below B16) (lit_own w15 o0 [kD, kC] (by decide))).mono ?_
  rintro e w16 ⟨rfl, B16'⟩
  have HF16 : Hid (Fr TS o0 o15 w w16) := (HF15.out.trans (Fr.ofBelow _ o15 B16)).trans (Fr.ofBelow _ o15 B16')
  clear B16 B16' HF15 HO15
  go_wp2_with fail
  go_ret
  exact ⟨rfl, HF16.out.below (Nat.le_refl _) (fun b _ e => nT0 e)⟩
end Go.Proofs.Ytbflcnghpkmcoaa
