/-
  NETPLAYS walked.
-/
import Derived.Test.YtgbjohipijpimaaDuo
import Derived.Deep.CutRange
import Derived.Deep.CutBlock
import Derived.Deep.MidRow
namespace Go.Proofs.Ytgbjohipijpimaa
open Go.RowKit

/-- Nine cells of one block stored. -/
theorem Fr.nine8 {T : Nat × Nat → Prop} {o : Nat → Nat × Nat} {B : Nat} (hB : T (o B)) (w1 : World) (u0 u1 u2 u3 u4 u5 u6 u7 u8 : Value) :
    Fr T o o w1 (((((((((w1.setCell ⟨B, 0, none⟩ u0).setCell ⟨B, 1, none⟩ u1).setCell ⟨B, 2, none⟩ u2).setCell ⟨B, 3, none⟩ u3).setCell ⟨B, 4, none⟩ u4).setCell ⟨B, 5, none⟩ u5).setCell ⟨B, 6, none⟩ u6).setCell ⟨B, 7, none⟩ u7).setCell ⟨B, 8, none⟩ u8) := by
  have fz : ∀ (W : World) (j : Nat) (u : Value), Fr T o o W (W.setCell ⟨B, j, none⟩ u) := fun W j u => Fr.set (a := ⟨B, j, none⟩) hB u
  exact (((((((((fz _ _ _).trans (fz _ _ _)).trans (fz _ _ _)).trans (fz _ _ _)).trans (fz _ _ _)).trans (fz _ _ _)).trans (fz _ _ _)).trans (fz _ _ _)).trans (fz _ _ _))
theorem Free.sets {g n : Nat} (b : Nat) (vs : List Value) (off : Nat) {w : World} (h : Free w g n) : Free (w.setCells b off vs) g n := fun j hj => ⟨some_setCells b _ _ _ _ (h j hj).1, by rw [World.frozen?_setCells]; exact (h j hj).2⟩
/-- What stands behind a call: both nets hold the same. -/
def TailP (w : World) (b D n : Nat) (wx : World) : Prop := ∃ (l : List F) (o : Nat → Nat × Nat), l.length ≤ n ∧ IsNet wx o 2 b l ∧ IsNet wx o 3 D l ∧ Fr TN o0 o w wx
theorem len_q' {o : Nat → Nat × Nat} {x b : Nat} {l : List F} (n : Nat) (hn : n = l.length) (w : World) (h : IsNet w o x b l) :
    Calls Try.prog 15 #[.pointer (some ⟨b, 0, none⟩)] w fun e w' => e = .returned (.int .i64 (n : Int)) ∧ w = w' := by
  subst hn; exact len_any w h
set_option maxRecDepth 100000 in
set_option maxHeartbeats 8000000 in
theorem plays_walk (a : Option Addr) (len cap : Nat) (q : Nat → Int × Int × F) (w : World) (hq : AskF w a q len) : Calls Try.prog 4 #[.slice a len cap] w fun e w' => e = .returned (.bool true) ∧ Below w.heap.size w w' := by
  have HQ : Hid (AskF w a q len) := hq
  clear hq
  go_enter Try.func4, Try.ntmps4
  go_wp2_with fail
  refine (new_any 2 _ o0).mono ?_
  rintro e w1 ⟨b, o1, rfl, I1, F1⟩
  obtain ⟨D, hD⟩ : ∃ D, w1.heap.size = D := ⟨_, rfl⟩
  have FN : Fr (fun _ => False) o1 (lab o1 D (3, 0)) w1 (w1.alloc (.cells #[.slice none 0 0] 39)) := by rw [← hD]; exact Fr.new _ o1 w1 _ _
  have ID : IsNet (w1.alloc (.cells #[.slice none 0 0] 39)) (lab o1 D (3, 0)) 3 D [] := by
    rw [← hD]
    refine ⟨lab_same _ _ _, World.frozen?_alloc_new _ _ _ _, none, 0, ?_, OwnK.nil _ _ _ _⟩
    rw [World.cell?_alloc_new]; rfl
  obtain ⟨o2, ho2⟩ : ∃ o2, o2 = lab o1 D (3, 0) := ⟨_, rfl⟩
  rw [← ho2] at FN ID
  have HI2 : Hid (IsNet (w1.alloc (.cells #[.slice none 0 0] 39)) o2 2 b []) := I1.fr FN id id
  have HJ2 : Hid (IsNet (w1.alloc (.cells #[.slice none 0 0] 39)) o2 3 D []) := ID
  have HF2 : Hid (Fr TN o0 o2 w (w1.alloc (.cells #[.slice none 0 0] 39))) := (F1.trans FN).mono (fun _ h => h.elim)
  have HD : Hid (w1.heap.size = D) := hD
  clear I1 F1 FN ID ho2 hD
  go_wp2_with fail
  rw [HD.out]
  go_loopw [5] (fun y wr => ∃ (i : Nat) (l : List F) (o : Nat → Nat × Nat), y = .int .i64 (i : Int) ∧ i ≤ 80 ∧ Hid (l.length ≤ i) ∧ Hid (IsNet wr o 2 b l) ∧ Hid (IsNet wr o 3 D l) ∧ Hid (Fr TN o0 o w wr)) (fun y _ => 80 - (intOf y).toNat)
  case atStart => exact ⟨0, [], o2, rfl, by omega, Nat.le_refl _, HI2, HJ2, HF2⟩
  case round =>
    clear HI2 HJ2 HF2 HD
    obtain ⟨i, l, o3, rfl, hi, HLi, HI3, HJ3, HF3⟩ := hrel
    by_cases hlt : i < len
    · have hi1 : (i : Int) < (len : Int) := by omega
      by_cases h80 : i < 80
      · rcases HQ.out with h0 | ⟨p, off, e1, hall⟩
        · omega
        · subst e1
          obtain ⟨a0, a1, afr⟩ := hall i hlt
          have x0 := HF3.out.cell a0 (fun x => x rfl)
          have x1 := HF3.out.cell a1 (fun x => x rfl)
          obtain ⟨y0, y1, y2, y3, y4, y5, y6, y7, y8⟩ := (afr.fr HF3.out (fun x => x rfl)).cells
          obtain ⟨KK, hKK⟩ : ∃ K, K = (q i).1 := ⟨_, rfl⟩
          obtain ⟨NN, hNN⟩ : ∃ K, K = (q i).2.1 := ⟨_, rfl⟩
          obtain ⟨f, hf⟩ : ∃ f, f = (q i).2.2 := ⟨_, rfl⟩
          rw [← hKK] at x0
          rw [← hNN] at x1
          rw [← hf] at y0 y1 y2 y3 y4 y5 y6 y7 y8
          obtain ⟨A, hA⟩ : ∃ A, wr.heap.size = A := ⟨_, rfl⟩
          obtain ⟨W0, hW0⟩ : ∃ W0, W0 = wr.alloc (.cells (askc KK NN f).toArray 41) := ⟨_, rfl⟩
          have FA : Fr (fun _ => False) o3 (lab o3 A (8, 0)) wr W0 := by rw [hW0, ← hA]; exact Fr.new _ o3 wr _ _
          have VA : AskV W0 (lab o3 A (8, 0)) A KK NN f := ⟨by rw [hW0, ← hA]; exact heap_alloc_new wr _, lab_same _ _ _⟩
          obtain ⟨o, ho⟩ : ∃ o, o = lab o3 A (8, 0) := ⟨_, rfl⟩
          rw [← ho] at FA VA
          have HV : Hid (AskV W0 o A KK NN f) := VA
          have HI : Hid (IsNet W0 o 2 b l) := HI3.out.fr FA id id
          have HJ : Hid (IsNet W0 o 3 D l) := HJ3.out.fr FA id id
          have HF : Hid (Fr TN o0 o w W0) := HF3.out.trans (FA.mono (fun _ h => h.elim))
          have HL : Hid (l.length ≤ 100000) := by show _ ≤ _; have := HLi.out; omega
          have HA : Hid (wr.heap.size = A) := hA
          obtain ⟨p0, p1, p2, p3, p4, p5, p6, p7, p8⟩ := f
          simp only [askc, F.cs] at hW0
          have HW0 : Hid (W0 = wr.alloc (.cells #[.int .i64 KK, .int .i64 NN, .int .i64 p0, .int .i64 p1, .int .i64 p2, .int .i64 p3, .int .i64 p4, .int .i64 p5, .string p6, .int .i64 p7, .string p8] 41)) := hW0
          clear hall a0 a1 afr hKK hNN hf hA hW0 FA VA ho HI3 HJ3 HF3
          go_upto_block 2 with fail
          rw [← HW0.out, HA.out]
          clear x0 x1 y0 y1 y2 y3 y4 y5 y6 y7 y8 HW0 HA
          go_cut [7, 8, 9, 10, 11, 12] from 20 to 129 (fun _ _ _ _ _ _ wx => Hid (TailP w b D (i + 1) wx))
          case first =>
            by_cases hK1 : KK = 1
            · subst hK1
              have HID : Hid (IsNet W0.drew o 2 b l) := HI.out.fr (Fr.drew1 (fun _ => False) o W0) id id
              have HJD : Hid (IsNet W0.drew o 3 D l) := HJ.out.fr (Fr.drew1 (fun _ => False) o W0) id id
              have HFD : Hid (Fr TN o0 o w W0.drew) := HF.out.trans (Fr.drew1 _ o W0)
              have HVD : Hid (AskV W0.drew o A 1 NN ⟨p0, p1, p2, p3, p4, p5, p6, p7, p8⟩) := HV.out.fr (Fr.drew1 (fun _ => False) o W0) id
              have HS : Hid (∀ (X : World) (o' : Nat → Nat × Nat), AskV X o' A 1 NN ⟨p0, p1, p2, p3, p4, p5, p6, p7, p8⟩ → (X.cell? ⟨A, 2, none⟩ = some (.int .i64 p0) ∧ X.cell? ⟨A, 3, none⟩ = some (.int .i64 p1) ∧ X.cell? ⟨A, 4, none⟩ = some (.int .i64 p2) ∧ X.cell? ⟨A, 5, none⟩ = some (.int .i64 p3) ∧ X.cell? ⟨A, 6, none⟩ = some (.int .i64 p4) ∧ X.cell? ⟨A, 7, none⟩ = some (.int .i64 p5) ∧ X.cell? ⟨A, 8, none⟩ = some (.string p6) ∧ X.cell? ⟨A, 9, none⟩ = some (.int .i64 p7) ∧ X.cell? ⟨A, 10, none⟩ = some (.string p8))) := fun X o' h => by
                obtain ⟨_, _, z0, z1, z2, z3, z4, z5, z6, z7, z8⟩ := h.cells
                exact ⟨z0, z1, z2, z3, z4, z5, z6, z7, z8⟩
              have S0 := HS.out _ _ HVD.out
              obtain ⟨k0, k1, _⟩ := HV.out.cells
              clear HI HJ HF HV
              go_wp2_with fail
              go_region_held3 (fun w' => w'.cell? ⟨A, 2, none⟩ = some (.int .i64 p0) ∧ w'.cell? ⟨A, 3, none⟩ = some (.int .i64 p1) ∧ w'.cell? ⟨A, 4, none⟩ = some (.int .i64 p2) ∧ w'.cell? ⟨A, 5, none⟩ = some (.int .i64 p3) ∧ w'.cell? ⟨A, 6, none⟩ = some (.int .i64 p4) ∧ w'.cell? ⟨A, 7, none⟩ = some (.int .i64 p5) ∧ w'.cell? ⟨A, 8, none⟩ = some (.string p6) ∧ w'.cell? ⟨A, 9, none⟩ = some (.int .i64 p7) ∧ w'.cell? ⟨A, 10, none⟩ = some (.string p8))
                (first | with_reducible exact S0 | with_reducible exact S5 | with_reducible exact S6 | exact S0)
                (first
                  | (go_at_call 8; refine (send_any ⟨p0, p1, p2, p3, p4, p5, p6, p7, p8⟩ (by have := HLi.out; omega) _ HID.out).mono ?_; rintro e w5 ⟨o5, rfl, I5, F5⟩; have HI5 : Hid (IsNet w5 o5 2 b (l ++ [⟨p0, p1, p2, p3, p4, p5, p6, p7, p8⟩])) := I5; have HJ5 : Hid (IsNet w5 o5 3 D l) := HJD.out.fr F5 (by decide) (by decide); have HF5 : Hid (Fr TN o0 o5 w w5) := HFD.out.trans (F5.mono (fun t h => TN.of (by decide) h)); have HV5 : Hid (AskV w5 o5 A 1 NN ⟨p0, p1, p2, p3, p4, p5, p6, p7, p8⟩) := HVD.out.fr F5 (by decide); have S5 := HS.out _ _ HV5.out; clear I5 F5)
                  | (go_at_call 16; refine (rsend_any ⟨p0, p1, p2, p3, p4, p5, p6, p7, p8⟩ (by have := HLi.out; omega) _ HJ5.out).mono ?_; rintro e w6 ⟨o6, rfl, J6, F6⟩; have HI6 : Hid (IsNet w6 o6 2 b (l ++ [⟨p0, p1, p2, p3, p4, p5, p6, p7, p8⟩])) := HI5.out.fr F6 (by decide) (by decide); have HJ6 : Hid (IsNet w6 o6 3 D (l ++ [⟨p0, p1, p2, p3, p4, p5, p6, p7, p8⟩])) := J6; have HF6 : Hid (Fr TN o0 o6 w w6) := HF5.out.trans (F6.mono (fun t h => TN.of (by decide) h)); have HV6 : Hid (AskV w6 o6 A 1 NN ⟨p0, p1, p2, p3, p4, p5, p6, p7, p8⟩) := HV5.out.fr F6 (by decide); have S6 := HS.out _ _ HV6.out; clear J6 F6))
              go_wp2_with fail
              go_meet
              exact ⟨l ++ [⟨p0, p1, p2, p3, p4, p5, p6, p7, p8⟩], o6, by rw [List.length_append]; exact Nat.add_le_add_right HLi.out 1, HI6.out, HJ6.out, HF6.out⟩
            · have jk1 : (KK == 1) = false := by simp [hK1]
              by_cases hK2 : KK = 2
              · subst hK2
                obtain ⟨ff, hff⟩ : ∃ ff, ff = fr l NN := ⟨_, rfl⟩
                obtain ⟨c, hc⟩ : ∃ c, c = isin l NN := ⟨_, rfl⟩
                have HFF : Hid (ff = fr l NN) := hff
                have HC : Hid (c = isin l NN) := hc
                have hcc : (c != c) = false := by simp
                obtain ⟨k0, k1, _⟩ := HV.out.cells
                clear hff hc
                go_wp2_with fail
                refine (rpick_any NN false ff c HFF.out HC.out HL.out (by decide) _ HJ.out).mono ?_
                rintro e w5 ⟨rfl, o5, J5, F5⟩
                obtain ⟨r0, r1, r2, r3, r4, r5, r6, r7, r8⟩ := ff
                obtain ⟨B, hB⟩ : ∃ B, w5.heap.size = B := ⟨_, rfl⟩
                have HB : Hid (w5.heap.size = B) := hB
                obtain ⟨o7, M7, N7⟩ := Mine.new w5 o5 ⟨r0, r1, r2, r3, r4, r5, r6, r7, r8⟩
                obtain ⟨o9, M9, N9⟩ := Mine.new (w5.alloc (.cells (⟨r0, r1, r2, r3, r4, r5, r6, r7, r8⟩ : F).cs.toArray 26)) o7 Z
                rw [World.size_alloc, hB] at M9
                rw [hB] at M7
                have F9 := (F5.trans (N7 _)).trans (N9 _)
                have HI9 : Hid (IsNet ((w5.alloc (.cells (⟨r0, r1, r2, r3, r4, r5, r6, r7, r8⟩ : F).cs.toArray 26)).alloc (.cells Z.cs.toArray 26)) o9 2 b l) := HI.out.fr F9 (by decide) (by decide)
                have HJ9 : Hid (IsNet ((w5.alloc (.cells (⟨r0, r1, r2, r3, r4, r5, r6, r7, r8⟩ : F).cs.toArray 26)).alloc (.cells Z.cs.toArray 26)) o9 3 D (cutl l NN)) := (J5.fr (N7 (fun _ => False)) id id).fr (N9 (fun _ => False)) id id
                have HF9 : Hid (Fr TN o0 o9 w ((w5.alloc (.cells (⟨r0, r1, r2, r3, r4, r5, r6, r7, r8⟩ : F).cs.toArray 26)).alloc (.cells Z.cs.toArray 26))) := HF.out.trans (F9.mono (fun t h => TN.of (by decide) h))
                have HM7 : Hid (Mine ((w5.alloc (.cells (⟨r0, r1, r2, r3, r4, r5, r6, r7, r8⟩ : F).cs.toArray 26)).alloc (.cells Z.cs.toArray 26)) o9 B ⟨r0, r1, r2, r3, r4, r5, r6, r7, r8⟩) := M7.fr (N9 (fun _ => False)) id
                have HM9 : Hid (Mine ((w5.alloc (.cells (⟨r0, r1, r2, r3, r4, r5, r6, r7, r8⟩ : F).cs.toArray 26)).alloc (.cells Z.cs.toArray 26)) o9 (B + 1) Z) := M9
                have V5 := HV.out.fr F5 (by decide)
                obtain ⟨e0, e1, _⟩ := ((V5.fr (N7 (fun _ => False)) id).fr (N9 (fun _ => False)) id).cells
                simp only [Z, F.cs, F.v] at HI9 HJ9 HF9 HM7 HM9 e0 e1 ⊢
                clear hB J5 F5 M7 N7 M9 N9 F9 V5 k0 k1 HI HJ HF HV
                go_wp2_with fail
                refine (deliver_any NN ⟨r0, r1, r2, r3, r4, r5, r6, r7, r8⟩ c HFF.out HC.out HL.out (by decide) _ HI9.out).mono ?_
                rintro e w10 ⟨rfl, o10, I10, F10⟩
                have J10 : IsNet w10 o10 3 D (cutl l NN) := HJ9.out.fr F10 (by decide) (by decide)
                have HF10 : Hid (Fr TN o0 o10 w w10) := HF9.out.trans (F10.mono (fun t h => TN.of (by decide) h))
                have M70 := HM7.out.fr F10 (by decide)
                have M90 := HM9.out.fr F10 (by decide)
                have HI10 : Hid (IsNet w10 o10 2 b (cutl l NN)) := I10
                have HJ10 : Hid (IsNet w10 o10 3 D (cutl l NN)) := J10
                have HO10 : Hid (o10 (B + 1) = (8, 0)) := M90.ob
                obtain ⟨c0, c1, c2, c3, c4, c5, c6, c7, c8⟩ := M90.nine.at_.cells
                obtain ⟨d0, d1, d2, d3, d4, d5, d6, d7, d8⟩ := M70.nine.at_.cells
                have z := M90.nine.frozen
                have hne := fun w => neq26 w ⟨r0, r1, r2, r3, r4, r5, r6, r7, r8⟩
                simp only [F.v, F.cs] at c0 c1 c2 c3 c4 c5 c6 c7 c8 hne ⊢
                rw [HB.out]
                clear I10 J10 F10 M70 M90 HI9 HJ9 HF9 HM7 HM9 e0 e1
                go_wp2_with fail
                go_meet
                have FX := Fr.nine8 (T := (· = (8, 0))) HO10.out w10 (.int .i64 r0) (.int .i64 r1) (.int .i64 r2) (.int .i64 r3) (.int .i64 r4) (.int .i64 r5) (.string r6) (.int .i64 r7) (.string r8)
                exact ⟨(cutl l NN), o10, by have := HLi.out; have := cutl_length l NN; omega, HI10.out.fr FX (by decide) (by decide), HJ10.out.fr FX (by decide) (by decide), HF10.out.trans (FX.mono (fun t e => by rw [e]; intro h; cases h))⟩
              · have jk2 : (KK == 2) = false := by simp [hK2]
                by_cases hK3 : KK = 3
                · subst hK3
                  obtain ⟨ff, hff⟩ : ∃ ff, ff = fr l NN := ⟨_, rfl⟩
                  obtain ⟨c, hc⟩ : ∃ c, c = isin l NN := ⟨_, rfl⟩
                  have HFF : Hid (ff = fr l NN) := hff
                  have HC : Hid (c = isin l NN) := hc
                  have hcc : (c != c) = false := by simp
                  obtain ⟨k0, k1, _⟩ := HV.out.cells
                  clear hff hc
                  go_wp2_with fail
                  refine (rpick_any NN true ff c HFF.out HC.out HL.out (by decide) _ HJ.out).mono ?_
                  rintro e w5 ⟨rfl, o5, J5, F5⟩
                  obtain ⟨r0, r1, r2, r3, r4, r5, r6, r7, r8⟩ := ff
                  obtain ⟨B, hB⟩ : ∃ B, w5.heap.size = B := ⟨_, rfl⟩
                  have HB : Hid (w5.heap.size = B) := hB
                  obtain ⟨o7, M7, N7⟩ := Mine.new w5 o5 ⟨r0, r1, r2, r3, r4, r5, r6, r7, r8⟩
                  obtain ⟨o9, M9, N9⟩ := Mine.new (w5.alloc (.cells (⟨r0, r1, r2, r3, r4, r5, r6, r7, r8⟩ : F).cs.toArray 26)) o7 Z
                  rw [World.size_alloc, hB] at M9
                  rw [hB] at M7
                  have F9 := (F5.trans (N7 _)).trans (N9 _)
                  have HI9 : Hid (IsNet ((w5.alloc (.cells (⟨r0, r1, r2, r3, r4, r5, r6, r7, r8⟩ : F).cs.toArray 26)).alloc (.cells Z.cs.toArray 26)) o9 2 b l) := HI.out.fr F9 (by decide) (by decide)
                  have HJ9 : Hid (IsNet ((w5.alloc (.cells (⟨r0, r1, r2, r3, r4, r5, r6, r7, r8⟩ : F).cs.toArray 26)).alloc (.cells Z.cs.toArray 26)) o9 3 D l) := (J5.fr (N7 (fun _ => False)) id id).fr (N9 (fun _ => False)) id id
                  have HF9 : Hid (Fr TN o0 o9 w ((w5.alloc (.cells (⟨r0, r1, r2, r3, r4, r5, r6, r7, r8⟩ : F).cs.toArray 26)).alloc (.cells Z.cs.toArray 26))) := HF.out.trans (F9.mono (fun t h => TN.of (by decide) h))
                  have HM7 : Hid (Mine ((w5.alloc (.cells (⟨r0, r1, r2, r3, r4, r5, r6, r7, r8⟩ : F).cs.toArray 26)).alloc (.cells Z.cs.toArray 26)) o9 B ⟨r0, r1, r2, r3, r4, r5, r6, r7, r8⟩) := M7.fr (N9 (fun _ => False)) id
                  have HM9 : Hid (Mine ((w5.alloc (.cells (⟨r0, r1, r2, r3, r4, r5, r6, r7, r8⟩ : F).cs.toArray 26)).alloc (.cells Z.cs.toArray 26)) o9 (B + 1) Z) := M9
                  have V5 := HV.out.fr F5 (by decide)
                  obtain ⟨e0, e1, _⟩ := ((V5.fr (N7 (fun _ => False)) id).fr (N9 (fun _ => False)) id).cells
                  simp only [Z, F.cs, F.v] at HI9 HJ9 HF9 HM7 HM9 e0 e1 ⊢
                  clear hB J5 F5 M7 N7 M9 N9 F9 V5 k0 k1 HI HJ HF HV
                  go_wp2_with fail
                  refine (copy_any NN ⟨r0, r1, r2, r3, r4, r5, r6, r7, r8⟩ c HFF.out HC.out _ HI9.out).mono ?_
                  rintro e w10 ⟨rfl, F10⟩
                  have I10 : IsNet w10 o9 2 b l := HI9.out.fr F10 id id
                  have J10 : IsNet w10 o9 3 D l := HJ9.out.fr F10 id id
                  have HF10 : Hid (Fr TN o0 o9 w w10) := HF9.out.trans (F10.mono (fun _ h => h.elim))
                  have M70 := HM7.out.fr F10 id
                  have M90 := HM9.out.fr F10 id
                  obtain ⟨o10, ho10⟩ : ∃ o10, o10 = o9 := ⟨_, rfl⟩
                  rw [← ho10] at I10 J10 HF10 M70 M90
                  clear ho10
                  have HI10 : Hid (IsNet w10 o10 2 b l) := I10
                  have HJ10 : Hid (IsNet w10 o10 3 D l) := J10
                  have HO10 : Hid (o10 (B + 1) = (8, 0)) := M90.ob
                  obtain ⟨c0, c1, c2, c3, c4, c5, c6, c7, c8⟩ := M90.nine.at_.cells
                  obtain ⟨d0, d1, d2, d3, d4, d5, d6, d7, d8⟩ := M70.nine.at_.cells
                  have z := M90.nine.frozen
                  have hne := fun w => neq26 w ⟨r0, r1, r2, r3, r4, r5, r6, r7, r8⟩
                  simp only [F.v, F.cs] at c0 c1 c2 c3 c4 c5 c6 c7 c8 hne ⊢
                  rw [HB.out]
                  clear I10 J10 F10 M70 M90 HI9 HJ9 HF9 HM7 HM9 e0 e1
                  go_wp2_with fail
                  go_meet
                  have FX := Fr.nine8 (T := (· = (8, 0))) HO10.out w10 (.int .i64 r0) (.int .i64 r1) (.int .i64 r2) (.int .i64 r3) (.int .i64 r4) (.int .i64 r5) (.string r6) (.int .i64 r7) (.string r8)
                  exact ⟨l, o10, by have := HLi.out; omega, HI10.out.fr FX (by decide) (by decide), HJ10.out.fr FX (by decide) (by decide), HF10.out.trans (FX.mono (fun t e => by rw [e]; intro h; cases h))⟩
                · have jk3 : (KK == 3) = false := by simp [hK3]
                  by_cases hK4 : KK = 4
                  · subst hK4
                    obtain ⟨ff, hff⟩ : ∃ ff, ff = fr l NN := ⟨_, rfl⟩
                    obtain ⟨c, hc⟩ : ∃ c, c = isin l NN := ⟨_, rfl⟩
                    have HFF : Hid (ff = fr l NN) := hff
                    have HC : Hid (c = isin l NN) := hc
                    have hcc : (c != c) = false := by simp
                    obtain ⟨k0, k1, _⟩ := HV.out.cells
                    clear hff hc
                    go_wp2_with fail
                    refine (rpick_any NN false ff c HFF.out HC.out HL.out (by decide) _ HJ.out).mono ?_
                    rintro e w5 ⟨rfl, o5, J5, F5⟩
                    obtain ⟨r0, r1, r2, r3, r4, r5, r6, r7, r8⟩ := ff
                    obtain ⟨o7, M7, N7⟩ := Mine.new w5 o5 ⟨r0, r1, r2, r3, r4, r5, r6, r7, r8⟩
                    have F9 := F5.trans (N7 _)
                    have HI9 : Hid (IsNet (w5.alloc (.cells (⟨r0, r1, r2, r3, r4, r5, r6, r7, r8⟩ : F).cs.toArray 26)) o7 2 b l) := HI.out.fr F9 (by decide) (by decide)
                    have HJ9 : Hid (IsNet (w5.alloc (.cells (⟨r0, r1, r2, r3, r4, r5, r6, r7, r8⟩ : F).cs.toArray 26)) o7 3 D (cutl l NN)) := J5.fr (N7 (fun _ => False)) id id
                    have HF9 : Hid (Fr TN o0 o7 w (w5.alloc (.cells (⟨r0, r1, r2, r3, r4, r5, r6, r7, r8⟩ : F).cs.toArray 26))) := HF.out.trans (F9.mono (fun t h => TN.of (by decide) h))
                    obtain ⟨e0, e1, _⟩ := (HV.out.fr F9 (by decide)).cells
                    simp only [F.cs, F.v] at HI9 HJ9 HF9 e0 e1 ⊢
                    clear J5 F5 M7 N7 F9 k0 k1 HI HJ HF HV
                    go_wp2_with fail
                    refine (drop_any NN c HC.out HL.out _ HI9.out).mono ?_
                    rintro e w10 ⟨rfl, I10, F10⟩
                    have HI10 : Hid (IsNet w10 o7 2 b (cutl l NN)) := I10
                    have HJ10 : Hid (IsNet w10 o7 3 D (cutl l NN)) := HJ9.out.fr F10 (by decide) (by decide)
                    have HF10 : Hid (Fr TN o0 o7 w w10) := HF9.out.trans (F10.mono (fun t h => TN.of (by decide) h))
                    clear I10 F10 HI9 HJ9 HF9 e0 e1
                    go_wp2_with fail
                    go_meet
                    exact ⟨cutl l NN, o7, by have := HLi.out; have := cutl_length l NN; omega, HI10.out, HJ10.out, HF10.out⟩
                  · have jk4 : (KK == 4) = false := by simp [hK4]
                    obtain ⟨k0, _⟩ := HV.out.cells
                    go_wp2_with fail
                    go_meet
                    exact ⟨l, o, by have := HLi.out; omega, HI.out, HJ.out, HF.out⟩
          case rest =>
            obtain ⟨l9, o9, hl9, r1, r2, r3⟩ := hcut.out
            have HI9 : Hid (IsNet wc o9 2 b l9) := r1
            have HJ9 : Hid (IsNet wc o9 3 D l9) := r2
            have HF9 : Hid (Fr TN o0 o9 w wc) := r3
            obtain ⟨n, hn⟩ : ∃ n, n = l9.length := ⟨_, rfl⟩
            have HN : Hid (n = l9.length) := hn
            have HL9 : Hid (l9.length ≤ i + 1) := hl9
            rw [← hn] at hl9
            clear r1 r2 r3 hcut hn HI HJ HF HV HL HLi
            go_wp2_with fail
            refine (list_any (6, 0) (by rw [← HN.out]; omega) _ HI9.out).mono ?_
            rintro e w5 ⟨a5, c5, o5, rfl, O5, F5⟩
            rw [← HN.out] at O5 ⊢
            have HO5 : Hid (OwnK w5 o5 (6, 0) 9 (.slice a5 n c5) n (fc l9)) := O5
            have HI5 : Hid (IsNet w5 o5 2 b l9) := HI9.out.fr F5 id id
            have HJ5 : Hid (IsNet w5 o5 3 D l9) := HJ9.out.fr F5 id id
            have HF5 : Hid (Fr TN o0 o5 w w5) := HF9.out.trans (F5.mono (fun _ h => h.elim))
            clear O5 F5 HI9 HJ9 HF9
            have FD : Fr (fun _ => False) o5 o5 w5 w5.drew := Fr.drew1 _ _ _
            obtain ⟨ad, cd, S0, OD⟩ := (HJ5.out.fr FD id id).li
            rw [← HN.out] at S0 OD
            have HOD : Hid (OwnK w5.drew o5 (3, 1) 9 (.slice ad n cd) n (fc l9)) := OD
            have HO5D : Hid (OwnK w5.drew o5 (6, 0) 9 (.slice a5 n c5) n (fc l9)) := HO5.out.fr FD id
            have HI5D : Hid (IsNet w5.drew o5 2 b l9) := HI5.out.fr FD id id
            have HJ5D : Hid (IsNet w5.drew o5 3 D l9) := HJ5.out.fr FD id id
            have HF5D : Hid (Fr TN o0 o5 w w5.drew) := HF5.out.trans (FD.mono (fun _ h => h.elim))
            have hnn : ((n : Int) != (n : Int)) = false := by simp
            clear FD OD HI5 HJ5 HF5
            go_wp2_with fail
            go_region_held3 (fun w' => w'.cell? ⟨D, 0, none⟩ = some (.slice ad n cd))
              (first | with_reducible exact S0 | with_reducible exact S6 | exact S0)
              (first
                | (go_at_call 13; refine (same_any l9 n (by omega) _ HO5D.out HOD.out).mono ?_; rintro e w6 ⟨rfl, b6⟩; have F6 := Fr.ofBelow (fun _ => False) o5 b6; have HI6 : Hid (IsNet w6 o5 2 b l9) := HI5D.out.fr F6 id id; have HJ6 : Hid (IsNet w6 o5 3 D l9) := HJ5D.out.fr F6 id id; have HF6 : Hid (Fr TN o0 o5 w w6) := HF5D.out.trans (F6.mono (fun _ h => h.elim)); have HO6 : Hid (OwnK w6 o5 (6, 0) 9 (.slice a5 n c5) n (fc l9)) := HO5D.out.fr F6 id; have S6 := F6.cell S0 id; clear b6 F6)
                | (go_at_call 15; refine (len_q' n HN.out _ HI6.out).mono ?_; rintro e w7 ⟨rfl, rfl⟩))
            clear S0 S6 HOD HO5D HI5D HJ5D HF5D HO5
            go_wp2_with fail
            go_loopw [14] (fun y wx => ∃ (k : Nat), y = .int .i64 (k : Int) ∧ k ≤ n ∧ Hid (OwnK w6 o5 (6, 0) 9 (.slice a5 n c5) n (fc l9)) ∧ Hid (∀ g, a5 = some ⟨g, 0, none⟩ → Free wx g (n * 9)) ∧ Hid (Fr (· = (6, 0)) o5 o5 w6 wx)) (fun y _ => n - (intOf y).toNat)
            case atStart =>
              refine ⟨0, rfl, by omega, HO6, fun g hg j hj => ?_, Fr.refl _ _ _⟩
              obtain ⟨g', cap', e, _, _, hc', _, _, h7⟩ := HO6.out.there (by omega)
              injection e with e1 _ e3
              rw [hg] at e1
              injection e1 with e1
              injection e1 with e1
              subst e1
              exact h7 j (by omega)
            case round =>
              obtain ⟨k, rfl, hk, HO7, HFr, HF7⟩ := hrel
              by_cases hkn : k < n
              · have hk1 : (k : Int) < (n : Int) := by omega
                obtain ⟨g, cap', e, og, hgs, _, _, _, _⟩ := HO7.out.there (by omega)
                injection e with e1 _ e3
                subst e1 e3
                have HOG : Hid (o5 g = (6, 0) ∧ g < w6.heap.size) := ⟨og, hgs⟩
                clear og hgs
                go_wp2_with fail
                refine (of_up (-1) _).mono ?_
                rintro e w8 ⟨rfl, b8⟩
                have FR8 := (HFr.out g rfl).below (Nat.lt_of_lt_of_le HOG.out.2 HF7.out.size) b8
                have HR8 : Hid (Free w8 g (n * 9)) := FR8
                have HF8 : Hid (Fr (· = (6, 0)) o5 o5 w6 w8) := HF7.out.trans (Fr.ofBelow _ _ b8)
                have hth : w8.there g (k * 9) 9 := fun j hj => FR8 (k * 9 + j) (by omega)
                have HTH : Hid (w8.there g (k * 9) 9) := hth
                obtain ⟨w9, hw9⟩ : ∃ w9, w9 = w8.setCells g (k * 9) (fo (-1)).cs.toArray.toList := ⟨_, rfl⟩
                have HR9 : Hid (Free w9 g (n * 9)) := by rw [hw9]; exact HR8.out.sets _ _ _
                have HF9 : Hid (Fr (· = (6, 0)) o5 o5 w6 w9) := by rw [hw9]; exact HF8.out.trans (Fr.sets (T := (· = (6, 0))) HOG.out.1 _ _ _)
                have HW9 : Hid (w9 = w8.setCells g (k * 9) (fo (-1)).cs.toArray.toList) := hw9
                clear b8 FR8 HFr HF7 hw9 HR8 HF8 hth
                simp only [fo, F.v, F.cs] at HW9 ⊢
                go_wp2_with ((with_reducible show wpList _ _ _ (Oper.mk none (Op.store _ _ _) _ _ _ _ :: _) _ _); refine wpList_store_mid (by rfl) 26 (.tmp 129) (.tmp 128) (by rfl) g (k * 9) #[.int .i64 0, .int .i64 0, .int .i64 0, .int .i64 (-1), .int .i64 0, .int .i64 0, .string ⟨#[]⟩, .int .i64 0, .string ⟨#[]⟩] (by rfl) (by rfl) HTH.out (by kernel_rfl) (all_oneCell_toArray (cs_one (fo (-1)))) ?_; rw [← HW9.out])
                refine ⟨⟨k + 1, by go_num, by omega, HO7, fun g' hg' => ?_, HF9.out⟩, by simp [intOf]; omega⟩
                injection hg' with hg'
                injection hg' with hg'
                subst hg'
                exact HR9.out
              · have hk1 : decide ((k : Int) < (n : Int)) = false := by simp; omega
                go_wp2_with fail
                have HI8 := HI6.out.fr HF7.out (by decide) (by decide)
                have HJ8 := HJ6.out.fr HF7.out (by decide) (by decide)
                exact ⟨⟨i + 1, l9, o5, by go_num, by omega, HL9, HI8, HJ8, HF6.out.trans (HF7.out.mono (fun t e => by rw [e]; intro h; cases h))⟩, by simp [intOf]; omega⟩
      · have g1 : decide ((i : Int) < 80) = false := by simp; omega
        go_wp2_with fail
        refine (runs_any _).mono ?_
        rintro e w2 ⟨rfl, B2⟩
        have HE : Hid (Below w.heap.size w w2) := (HF3.out.trans (Fr.ofBelow _ _ B2)).below (Nat.le_refl _) (fun b _ h => h rfl)
        clear B2
        go_wp2_with fail
        go_ret
        exact ⟨rfl, HE.out⟩
    · have g1 : decide ((i : Int) < (len : Int)) = false := by simp; omega
      go_wp2_with fail
      refine (runs_any _).mono ?_
      rintro e w2 ⟨rfl, B2⟩
      have HE : Hid (Below w.heap.size w w2) := (HF3.out.trans (Fr.ofBelow _ _ B2)).below (Nat.le_refl _) (fun b _ h => h rfl)
      clear B2
      go_wp2_with fail
      go_ret
      exact ⟨rfl, HE.out⟩
end Go.Proofs.Ytgbjohipijpimaa
