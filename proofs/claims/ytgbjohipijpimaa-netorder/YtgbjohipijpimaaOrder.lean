/-
  NETORDER walked.
-/
import Derived.Test.YtgbjohipijpimaaRuns
namespace Go.Proofs.Ytgbjohipijpimaa
open Go.RowKit

theorem OwnK.room {w : World} {o : Nat → Nat × Nat} {t : Nat × Nat} {k n g c : Nat} {cs : List Value} (h : OwnK w o t k (.slice (some ⟨g, 0, none⟩) n c) n cs) : n ≤ c := by
  obtain ⟨a, c', e, hc⟩ := h.form
  injection e with _ _ e
  omega
set_option maxRecDepth 100000 in
set_option maxHeartbeats 4000000 in
theorem order_walk (N : Int) (pa ka : Option Addr) (pl kl pc kc : Nat) (q r : Nat → Int) (w : World) (hq : IntsF w pa q pl) (hr : IntsF w ka r kl) : Calls Try.prog 6 #[.int .i64 N, .slice pa pl pc, .slice ka kl kc] w fun e w' => e = .returned (.bool true) ∧ Below w.heap.size w w' := by
  have HQ : Hid (IntsF w pa q pl) := hq
  have HR : Hid (IntsF w ka r kl) := hr
  obtain ⟨K, hK⟩ : ∃ K : Nat, wi N 0 40 = (K : Int) := ⟨(wi N 0 40).toNat, by have := (wi_bd N 0 40 (by omega)).1; omega⟩
  have hK40 : K ≤ 40 := by have := (wi_bd N 0 40 (by omega)).2; omega
  have HK : Hid (wi N 0 40 = (K : Int)) := hK
  clear hq hr hK
  go_enter Try.func6, Try.ntmps6
  go_wp2_with fail
  refine (new_any 2 _ o0).mono ?_
  rintro e w1 ⟨b, o1, rfl, I1, F1⟩
  have HI1 : Hid (IsNet w1 o1 2 b []) := I1
  have HF1 : Hid (Fr TN o0 o1 w w1) := F1.mono (fun _ h => h.elim)
  clear I1 F1
  go_wp2_with fail
  refine (within_any N 0 40 (by omega) (by omega) (by omega) _).mono ?_
  rintro e w2 ⟨rfl, rfl⟩
  rw [HK.out]
  go_wp2_with fail
  go_loopw [8, 9] (fun V i wr => ∃ (j n : Nat) (l : List F) (o : Nat → Nat × Nat) (va : Option Addr) (vc : Nat), V = .slice va n vc ∧ i = .int .i64 (j : Int) ∧ n + j = K ∧ Hid (n = l.length) ∧ Hid (IsNet wr o 2 b l) ∧ Hid (OwnK wr o (4, 0) 9 (.slice va n vc) n (fc l)) ∧ Hid (Fr TN o0 o w wr)) (fun _ i _ => (intOf i).toNat)
  case atStart => exact ⟨K, 0, [], o1, none, 0, rfl, rfl, by omega, rfl, HI1, OwnK.nil _ _ _ _, HF1⟩
  case round =>
    clear HI1 HF1
    obtain ⟨j, n, l, o, va, vc, rfl, rfl, hnj, HN, HI, HO, HF⟩ := hrel
    by_cases hj0 : 0 < j
    · have hi1 : (0 : Int) < (j : Int) := by omega
      go_wp2_with fail
      refine (of_up (j : Int) _).mono ?_
      rintro e w2 ⟨rfl, b2⟩
      have F2 := Fr.ofBelow (fun _ => False) o b2
      have HI2 : Hid (IsNet w2 o 2 b l) := HI.out.fr F2 id id
      have HO2 : Hid (OwnK w2 o (4, 0) 9 (.slice va n vc) n (fc l)) := HO.out.fr F2 id
      have HF2 : Hid (Fr TN o0 o w w2) := HF.out.trans (F2.mono (fun _ h => h.elim))
      clear HI HO HF b2 F2
      go_wp2_with fail
      refine (send_any (fo (j : Int)) (by rw [← HN.out]; omega) _ HI2.out).mono ?_
      rintro e w3 ⟨o3, rfl, I3, F3⟩
      have HI3 : Hid (IsNet w3 o3 2 b (l ++ [fo (j : Int)])) := I3
      have HO3 : Hid (OwnK w3 o3 (4, 0) 9 (.slice va n vc) n (fc l)) := HO2.out.fr F3 (by decide)
      have HF3 : Hid (Fr TN o0 o3 w w3) := HF2.out.trans (F3.mono (fun t h => TN.of (by decide) h))
      clear I3 F3 HI2 HO2 HF2
      go_wp2_with fail
      refine (of_up (j : Int) _).mono ?_
      rintro e w4 ⟨rfl, b4⟩
      have F4 := Fr.ofBelow (fun _ => False) o3 b4
      obtain ⟨v5, w5, o5, hrun, O5, F5⟩ := app_one 32 26 Z.v 88 under32 info26 cells26 (HO3.out.fr F4 id) (fo (j : Int)).cs rfl (cs_one _) (by omega) (by omega)
      obtain ⟨a5, c5, rfl, _⟩ := O5.form
      have HO5 : Hid (OwnK w5 o5 (4, 0) 9 (.slice a5 (n + 1) c5) (n + 1) (fc (l ++ [fo (j : Int)]))) := by
        show OwnK _ _ _ _ _ _ _; rw [fc_append, fc_single]; exact O5
      have HI5 : Hid (IsNet w5 o5 2 b (l ++ [fo (j : Int)])) := (HI3.out.fr F4 id id).fr F5 (by decide) (by decide)
      have HF5 : Hid (Fr TN o0 o5 w w5) := (HF3.out.trans (F4.mono (fun _ h => h.elim))).trans (F5.mono (fun t e => by rw [e]; intro h; cases h))
      have HN5 : Hid (n + 1 = (l ++ [fo (j : Int)]).length) := by show _ = _; rw [List.length_append, ← HN.out]; rfl
      simp only [fo, F.v, F.cs] at hrun ⊢
      clear HI3 HO3 HF3 F4 b4 O5 F5 HN
      go_wp2_with (at_builtin; refine wpList_append_run rfl (.tmp 29) (.tmp 32) 32 32 rfl _ _ _ rfl rfl hrun ?_)
      exact ⟨⟨j - 1, n + 1, l ++ [fo (j : Int)], o5, a5, c5, rfl, by go_num, by omega, HN5, HI5, HO5, HF5⟩, by simp [intOf]; omega⟩
    · have hj : j = 0 := by omega
      subst hj
      have hnK : n ≤ 40 := by omega
      rw [show ((0 : Nat) : Int) = 0 from rfl]
      clear hnj hj0 HK hK40
      go_wp2_with fail
      go_loopw [8, 10] (fun V i wr => ∃ (j n : Nat) (l : List F) (o : Nat → Nat × Nat) (va : Option Addr) (vc : Nat), V = .slice va n vc ∧ i = .int .i64 (j : Int) ∧ j ≤ 60 ∧ n ≤ 40 ∧ Hid (n = l.length) ∧ Hid (IsNet wr o 2 b l) ∧ Hid (OwnK wr o (4, 0) 9 (.slice va n vc) n (fc l)) ∧ Hid (Fr TN o0 o w wr)) (fun _ i _ => 60 - (intOf i).toNat)
      case atStart => exact ⟨0, n, l, o, va, vc, rfl, rfl, by omega, hnK, HN, HI, HO, HF⟩
      case round =>
        clear HN HI HO HF hnK
        obtain ⟨j, n, l, o, va, vc, rfl, rfl, hj, hn, HN, HI, HO, HF⟩ := hrel
        by_cases h1 : j < pl
        · have g1 : (j : Int) < (pl : Int) := by omega
          by_cases h2 : j < kl
          · have g2 : (j : Int) < (kl : Int) := by omega
            by_cases h3 : j < 60
            · by_cases h4 : 0 < n
              · have g4 : (0 : Int) < (n : Int) := by omega
                rcases HQ.out with h0 | ⟨pb, poff, e1, pall⟩
                · omega
                · rcases HR.out with h0 | ⟨kb, koff, e2, kall⟩
                  · omega
                  · subst e1 e2
                    have k1 := HF.out.cell (pall j h1) (fun x => x rfl)
                    have k2 := HF.out.cell (kall j h2) (fun x => x rfl)
                    obtain ⟨Q, hQ⟩ : ∃ Q, Q = q j := ⟨_, rfl⟩
                    obtain ⟨R, hR⟩ : ∃ R, R = r j := ⟨_, rfl⟩
                    rw [← hQ] at k1
                    rw [← hR] at k2
                    obtain ⟨P, hP⟩ : ∃ P : Nat, wi Q 0 ((n : Int) - 1) = (P : Int) := ⟨(wi Q 0 ((n : Int) - 1)).toNat, by have := (wi_bd Q 0 ((n : Int) - 1) (by omega)).1; omega⟩
                    have hPn : P < n := by have := (wi_bd Q 0 ((n : Int) - 1) (by omega)).2; omega
                    have HP : Hid (wi Q 0 ((n : Int) - 1) = (P : Int)) := hP
                    obtain ⟨T, hT⟩ : ∃ T : Int, wi R 0 2 = T := ⟨_, rfl⟩
                    have hT3 := wi_bd R 0 2 (by omega)
                    rw [hT] at hT3
                    have HT : Hid (wi R 0 2 = T) := hT
                    obtain ⟨f, hf⟩ : ∃ f, l[P]? = some f := ⟨_, List.getElem?_eq_getElem (by rw [← HN.out]; exact hPn)⟩
                    have HAT : Hid (l[P]? = some f) := hf
                    obtain ⟨g, eg, _, og, _⟩ := HO.out.frame hf
                    subst eg
                    have hvc : n ≤ vc := HO.out.room
                    have gP : (P : Int) < (n : Int) := by omega
                    clear pall kall hQ hR hP hT hf og
                    go_wp2_with fail
                    refine (within_any Q 0 ((n : Int) - 1) (by omega) (by omega) (by omega) _).mono ?_
                    rintro e w3 ⟨rfl, rfl⟩
                    rw [HP.out]
                    go_wp2_with fail
                    refine (within_any R 0 2 (by omega) (by omega) (by omega) _).mono ?_
                    rintro e w3 ⟨rfl, rfl⟩
                    rw [HT.out]
                    clear k1 k2
                    rcases (show T = 0 ∨ T = 1 ∨ T = 2 by omega) with rfl | rfl | rfl
                    · go_wp2_with fail
                      refine (deliver_yes P f HAT.out (by rw [← HN.out]; omega) (by decide) _ HI.out).mono ?_
                      rintro e w8 ⟨rfl, o9, I8, F8⟩
                      have F9 : Fr (·.1 = 2) o o9 wr (w8.alloc (.cells f.cs.toArray 26)) := F8.trans (Fr.alloc _ _ _ _)
                      have O9 := HO.out.fr F9 (by decide)
                      have HI8 : Hid (∀ m, IsNet ((w8.alloc (.cells f.cs.toArray 26)).drewN m) o9 2 b (out l P)) := fun m => (I8.alloc _).fr (Fr.drewN (fun _ => False) _ _ m) id id
                      have HO8 : Hid (∀ m, OwnK ((w8.alloc (.cells f.cs.toArray 26)).drewN m) o9 (4, 0) 9 (.slice (some ⟨g, 0, none⟩) n vc) n (fc l)) := fun m => O9.fr (Fr.drewN (fun _ => False) _ _ m) id
                      have HF8 : Hid (∀ m, Fr TN o0 o9 w ((w8.alloc (.cells f.cs.toArray 26)).drewN m)) := fun m => (HF.out.trans (F9.mono (fun t h => TN.of (by decide) h))).trans (Fr.drewN _ _ _ m)
                      obtain ⟨g', eg, _, _, hfr⟩ := O9.frame HAT.out
                      injection eg with eg
                      injection eg with eg
                      subst eg
                      obtain ⟨y0, y1, y2, y3, y4, y5, y6, y7, y8⟩ := hfr.cells
                      have hne := fun w => neq26 w f
                      obtain ⟨p0, p1, p2, p3, p4, p5, p6, p7, p8⟩ := f
                      simp only [F.v, F.cs] at hne y0 y1 y2 y3 y4 y5 y6 y7 y8 HI8 HO8 HF8 ⊢
                      clear I8 F8 F9 O9 hfr HI HO HF
                      go_wp2_with fail
                      go_quiet (fail)
                      obtain ⟨W, hW⟩ : ∃ W, W = (w8.alloc (.cells #[.int .i64 p0, .int .i64 p1, .int .i64 p2, .int .i64 p3, .int .i64 p4, .int .i64 p5, .string p6, .int .i64 p7, .string p8] 26)).drewN nq := ⟨_, rfl⟩
                      have I9 := HI8.out nq
                      have O9 := HO8.out nq
                      have F9 := HF8.out nq
                      rw [← hW] at I9 O9 F9 ⊢
                      have HI9 : Hid (IsNet W o9 2 b (out l P)) := I9
                      have HO9 : Hid (OwnK W o9 (4, 0) 9 (.slice (some ⟨g, 0, none⟩) n vc) n (fc l)) := O9
                      have HF9 : Hid (Fr TN o0 o9 w W) := F9
                      clear hW I9 O9 F9 HI8 HO8 HF8 hne y0 y1 y2 y3 y4 y5 y6 y7 y8
                      have OD : OwnK W.drew o9 (4, 0) 9 (.slice (some ⟨g, 0, none⟩) n vc) n (fc l) := HO9.out.fr (Fr.drew1 (fun _ => False) o9 W) id
                      obtain ⟨a6, q6, w6, run1, B6, _, hrest⟩ := erase_own (i := P) (4, 0) 32 26 Z.v 88 under32 info26 cells26 OD (by omega) (by omega) (by omega)
                      obtain ⟨a7, q7, w7, o7, run2, O7, F7⟩ := hrest hPn
                      rw [fc_out] at O7
                      have FW : Fr (fun _ => False) o9 o7 W w7 := (Fr.drew1 _ o9 W).trans (F7 _)
                      have HE : Hid (IsNet w7 o7 2 b (out l P) ∧ OwnK w7 o7 (4, 0) 9 (.slice a7 (n - 1) q7) (n - 1) (fc (out l P)) ∧ Fr TN o0 o7 w w7 ∧ n - 1 = (out l P).length) := ⟨HI9.out.fr FW id id, O7, HF9.out.trans (FW.mono (fun _ h => h.elim)), by rw [out_length (by rw [← HN.out]; exact hPn), HN.out]⟩
                      have sl1 := slice_hiT 32 26 9 elem32 elem32' size26' g n vc P (by omega)
                      have sl2 : ∀ w, (Instr.sliceAt 32 (.slice (some ⟨g, 0, none⟩) n vc) (some (.int .i64 ((P : Int) + 1))) none none).run Try.prog w = .ok (.slice (some (cutA g (P + 1) vc 9)) (n - (P + 1)) (vc - (P + 1))) w := slice_loT 32 26 9 elem32 elem32' size26' g n vc (P + 1) (by omega)
                      have hwk : IntKind.i64.wrap ((P : Int) + 1) = (P : Int) + 1 := by rw [IntKind.wrap_i64]; omega
                      clear OD B6 hrest O7 F7 FW HI9 HO9 HF9
                      go_wp2_with fail
                      go_region_law (first | (refine step_app4 run1 (.tmp 110) (.tmp 113) (by rfl) (by rfl) (by rfl) (by rfl) (by rfl) (by rfl) ?_) | (refine step_app4 run2 (.tmp 114) (.tmp 118) (by with_reducible rfl) (by rfl) (by rfl) (by rfl) (by rfl) (by rfl) ?_))
                      all_goals
                        go_wp2_with fail
                        exact ⟨⟨j + 1, n - 1, out l P, o7, a7, q7, rfl, by go_num, by omega, by omega, HE.out.2.2.2, HE.out.1, HE.out.2.1, HE.out.2.2.1⟩, by simp [intOf]; omega⟩
                    · go_wp2_with fail
                      refine (drop_yes P (by rw [← HN.out]; exact hPn) (by rw [← HN.out]; omega) _ HI.out).mono ?_
                      rintro e W ⟨rfl, I8, F8⟩
                      obtain ⟨o9, ho9⟩ : ∃ o9, o9 = o := ⟨_, rfl⟩
                      have HI9 : Hid (IsNet W o9 2 b (out l P)) := by rw [ho9]; exact I8
                      have HO9 : Hid (OwnK W o9 (4, 0) 9 (.slice (some ⟨g, 0, none⟩) n vc) n (fc l)) := by rw [ho9]; exact HO.out.fr F8 (by decide)
                      have HF9 : Hid (Fr TN o0 o9 w W) := by rw [ho9]; exact HF.out.trans (F8.mono (fun t h => TN.of (by decide) h))
                      clear I8 F8 HI HO HF ho9 HAT
                      have OD : OwnK W.drew o9 (4, 0) 9 (.slice (some ⟨g, 0, none⟩) n vc) n (fc l) := HO9.out.fr (Fr.drew1 (fun _ => False) o9 W) id
                      obtain ⟨a6, q6, w6, run1, B6, _, hrest⟩ := erase_own (i := P) (4, 0) 32 26 Z.v 88 under32 info26 cells26 OD (by omega) (by omega) (by omega)
                      obtain ⟨a7, q7, w7, o7, run2, O7, F7⟩ := hrest hPn
                      rw [fc_out] at O7
                      have FW : Fr (fun _ => False) o9 o7 W w7 := (Fr.drew1 _ o9 W).trans (F7 _)
                      have HE : Hid (IsNet w7 o7 2 b (out l P) ∧ OwnK w7 o7 (4, 0) 9 (.slice a7 (n - 1) q7) (n - 1) (fc (out l P)) ∧ Fr TN o0 o7 w w7 ∧ n - 1 = (out l P).length) := ⟨HI9.out.fr FW id id, O7, HF9.out.trans (FW.mono (fun _ h => h.elim)), by rw [out_length (by rw [← HN.out]; exact hPn), HN.out]⟩
                      have sl1 := slice_hiT 32 26 9 elem32 elem32' size26' g n vc P (by omega)
                      have sl2 : ∀ w, (Instr.sliceAt 32 (.slice (some ⟨g, 0, none⟩) n vc) (some (.int .i64 ((P : Int) + 1))) none none).run Try.prog w = .ok (.slice (some (cutA g (P + 1) vc 9)) (n - (P + 1)) (vc - (P + 1))) w := slice_loT 32 26 9 elem32 elem32' size26' g n vc (P + 1) (by omega)
                      have hwk : IntKind.i64.wrap ((P : Int) + 1) = (P : Int) + 1 := by rw [IntKind.wrap_i64]; omega
                      clear OD B6 hrest O7 F7 FW HI9 HO9 HF9
                      go_wp2_with fail
                      go_region_law (first | (refine step_app4 run1 (.tmp 110) (.tmp 113) (by rfl) (by rfl) (by rfl) (by rfl) (by rfl) (by rfl) ?_) | (refine step_app4 run2 (.tmp 114) (.tmp 118) (by with_reducible rfl) (by rfl) (by rfl) (by rfl) (by rfl) (by rfl) ?_))
                      all_goals
                        go_wp2_with fail
                        exact ⟨⟨j + 1, n - 1, out l P, o7, a7, q7, rfl, by go_num, by omega, by omega, HE.out.2.2.2, HE.out.1, HE.out.2.1, HE.out.2.2.1⟩, by simp [intOf]; omega⟩
                    · go_wp2_with fail
                      refine (copy_yes P f HAT.out _ HI.out).mono ?_
                      rintro e w8 ⟨rfl, F8⟩
                      have F9 : Fr (fun _ => False) o o wr (w8.alloc (.cells f.cs.toArray 26)) := F8.trans (Fr.alloc _ _ _ _)
                      have O9 := HO.out.fr F9 id
                      have HI8 : Hid (∀ m, IsNet ((w8.alloc (.cells f.cs.toArray 26)).drewN m) o 2 b l) := fun m => (HI.out.fr F9 id id).fr (Fr.drewN (fun _ => False) _ _ m) id id
                      have HO8 : Hid (∀ m, OwnK ((w8.alloc (.cells f.cs.toArray 26)).drewN m) o (4, 0) 9 (.slice (some ⟨g, 0, none⟩) n vc) n (fc l)) := fun m => O9.fr (Fr.drewN (fun _ => False) _ _ m) id
                      have HF8 : Hid (∀ m, Fr TN o0 o w ((w8.alloc (.cells f.cs.toArray 26)).drewN m)) := fun m => (HF.out.trans (F9.mono (fun _ h => h.elim))).trans (Fr.drewN _ _ _ m)
                      obtain ⟨g', eg, _, _, hfr⟩ := O9.frame HAT.out
                      injection eg with eg
                      injection eg with eg
                      subst eg
                      obtain ⟨y0, y1, y2, y3, y4, y5, y6, y7, y8⟩ := hfr.cells
                      have hne := fun w => neq26 w f
                      obtain ⟨p0, p1, p2, p3, p4, p5, p6, p7, p8⟩ := f
                      simp only [F.v, F.cs] at hne y0 y1 y2 y3 y4 y5 y6 y7 y8 HI8 HO8 HF8 ⊢
                      clear F8 F9 O9 hfr HI HO HF
                      go_wp2_with fail
                      go_quiet (fail)
                      go_wp2_with fail
                      exact ⟨⟨j + 1, n, l, o, some ⟨g, 0, none⟩, vc, rfl, by go_num, by omega, by omega, HN, HI8.out nq, HO8.out nq, HF8.out nq⟩, by simp [intOf]; omega⟩
              · have g4 : decide ((0 : Int) < (n : Int)) = false := by simp; omega
                go_wp2_with fail
                refine (list_any (6, 0) (by rw [← HN.out]; omega) _ HI.out).mono ?_
                rintro e w5 ⟨a5, c5, o5, rfl, O5, F5⟩
                rw [← HN.out] at O5 ⊢
                have HO5 : Hid (OwnK w5 o5 (6, 0) 9 (.slice a5 n c5) n (fc l)) := O5
                have HW5 : Hid (OwnK w5 o5 (4, 0) 9 (.slice va n vc) n (fc l)) := HO.out.fr F5 id
                have HF5 : Hid (Fr TN o0 o5 w w5) := HF.out.trans (F5.mono (fun _ h => h.elim))
                clear O5 F5 HI HO HF
                go_wp2_with fail
                refine (same_any l n (by omega) _ HO5.out HW5.out).mono ?_
                rintro e w6 ⟨rfl, B6⟩
                have HF6 : Hid (Fr TN o0 o5 w w6) := HF5.out.trans (Fr.ofBelow _ _ B6)
                clear B6 HO5 HW5 HF5
                go_wp2_with fail
                refine (runs_any _).mono ?_
                rintro e w7 ⟨rfl, B7⟩
                have HE : Hid (Below w.heap.size w w7) := (HF6.out.trans (Fr.ofBelow _ _ B7)).below (Nat.le_refl _) (fun b _ h => h rfl)
                clear B7 HF6
                go_wp2_with fail
                go_ret
                exact ⟨rfl, HE.out⟩
            · have g3 : decide ((j : Int) < 60) = false := by simp; omega
              go_wp2_with fail
              refine (list_any (6, 0) (by rw [← HN.out]; omega) _ HI.out).mono ?_
              rintro e w5 ⟨a5, c5, o5, rfl, O5, F5⟩
              rw [← HN.out] at O5 ⊢
              have HO5 : Hid (OwnK w5 o5 (6, 0) 9 (.slice a5 n c5) n (fc l)) := O5
              have HW5 : Hid (OwnK w5 o5 (4, 0) 9 (.slice va n vc) n (fc l)) := HO.out.fr F5 id
              have HF5 : Hid (Fr TN o0 o5 w w5) := HF.out.trans (F5.mono (fun _ h => h.elim))
              clear O5 F5 HI HO HF
              go_wp2_with fail
              refine (same_any l n (by omega) _ HO5.out HW5.out).mono ?_
              rintro e w6 ⟨rfl, B6⟩
              have HF6 : Hid (Fr TN o0 o5 w w6) := HF5.out.trans (Fr.ofBelow _ _ B6)
              clear B6 HO5 HW5 HF5
              go_wp2_with fail
              refine (runs_any _).mono ?_
              rintro e w7 ⟨rfl, B7⟩
              have HE : Hid (Below w.heap.size w w7) := (HF6.out.trans (Fr.ofBelow _ _ B7)).below (Nat.le_refl _) (fun b _ h => h rfl)
              clear B7 HF6
              go_wp2_with fail
              go_ret
              exact ⟨rfl, HE.out⟩
          · have g2 : decide ((j : Int) < (kl : Int)) = false := by simp; omega
            go_wp2_with fail
            refine (list_any (6, 0) (by rw [← HN.out]; omega) _ HI.out).mono ?_
            rintro e w5 ⟨a5, c5, o5, rfl, O5, F5⟩
            rw [← HN.out] at O5 ⊢
            have HO5 : Hid (OwnK w5 o5 (6, 0) 9 (.slice a5 n c5) n (fc l)) := O5
            have HW5 : Hid (OwnK w5 o5 (4, 0) 9 (.slice va n vc) n (fc l)) := HO.out.fr F5 id
            have HF5 : Hid (Fr TN o0 o5 w w5) := HF.out.trans (F5.mono (fun _ h => h.elim))
            clear O5 F5 HI HO HF
            go_wp2_with fail
            refine (same_any l n (by omega) _ HO5.out HW5.out).mono ?_
            rintro e w6 ⟨rfl, B6⟩
            have HF6 : Hid (Fr TN o0 o5 w w6) := HF5.out.trans (Fr.ofBelow _ _ B6)
            clear B6 HO5 HW5 HF5
            go_wp2_with fail
            refine (runs_any _).mono ?_
            rintro e w7 ⟨rfl, B7⟩
            have HE : Hid (Below w.heap.size w w7) := (HF6.out.trans (Fr.ofBelow _ _ B7)).below (Nat.le_refl _) (fun b _ h => h rfl)
            clear B7 HF6
            go_wp2_with fail
            go_ret
            exact ⟨rfl, HE.out⟩
        · have g1 : decide ((j : Int) < (pl : Int)) = false := by simp; omega
          go_wp2_with fail
          refine (list_any (6, 0) (by rw [← HN.out]; omega) _ HI.out).mono ?_
          rintro e w5 ⟨a5, c5, o5, rfl, O5, F5⟩
          rw [← HN.out] at O5 ⊢
          have HO5 : Hid (OwnK w5 o5 (6, 0) 9 (.slice a5 n c5) n (fc l)) := O5
          have HW5 : Hid (OwnK w5 o5 (4, 0) 9 (.slice va n vc) n (fc l)) := HO.out.fr F5 id
          have HF5 : Hid (Fr TN o0 o5 w w5) := HF.out.trans (F5.mono (fun _ h => h.elim))
          clear O5 F5 HI HO HF
          go_wp2_with fail
          refine (same_any l n (by omega) _ HO5.out HW5.out).mono ?_
          rintro e w6 ⟨rfl, B6⟩
          have HF6 : Hid (Fr TN o0 o5 w w6) := HF5.out.trans (Fr.ofBelow _ _ B6)
          clear B6 HO5 HW5 HF5
          go_wp2_with fail
          refine (runs_any _).mono ?_
          rintro e w7 ⟨rfl, B7⟩
          have HE : Hid (Below w.heap.size w w7) := (HF6.out.trans (Fr.ofBelow _ _ B7)).below (Nat.le_refl _) (fun b _ h => h rfl)
          clear B7 HF6
          go_wp2_with fail
          go_ret
          exact ⟨rfl, HE.out⟩
end Go.Proofs.Ytgbjohipijpimaa
