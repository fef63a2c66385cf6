/-
  MAILPLAYS walked.
-/
import Derived.Test.YtpepklgahljhbaaOff
import Derived.Deep.CutRange
import Derived.Deep.CutBlock
namespace Go.Proofs.Ytpepklgahljhbaa
open Go.Conc Go.RowKit

theorem FrmAt.cells {w : World} {g off : Nat} {f : F} (h : FrmAt w g off f) : w.cell? ⟨g, off, none⟩ = some (.int .i64 f.kind) ∧ w.cell? ⟨g, off + 1, none⟩ = some (.int .i64 f.slot) ∧ w.cell? ⟨g, off + 2, none⟩ = some (.int .i64 f.inc) ∧ w.cell? ⟨g, off + 3, none⟩ = some (.int .i64 f.rid) ∧ w.cell? ⟨g, off + 4, none⟩ = some (.int .i64 f.floor) ∧ w.cell? ⟨g, off + 5, none⟩ = some (.int .i64 f.role) ∧ w.cell? ⟨g, off + 6, none⟩ = some (.string f.key) ∧ w.cell? ⟨g, off + 7, none⟩ = some (.int .i64 f.ver) ∧ w.cell? ⟨g, off + 8, none⟩ = some (.string f.data) :=
  ⟨h 0 _ rfl, h 1 _ rfl, h 2 _ rfl, h 3 _ rfl, h 4 _ rfl, h 5 _ rfl, h 6 _ rfl, h 7 _ rfl, h 8 _ rfl⟩
theorem FrmAt.fr {T : Nat × Nat → Prop} {w w' : World} {o o' : Nat → Nat × Nat} {g off : Nat} {f : F} (h : FrmAt w g off f) (x : Fr T o o' w w') (ht : ¬ T (o g)) : FrmAt w' g off f := fun j u hu => x.cell (h j u hu) ht
set_option maxRecDepth 100000 in
set_option maxHeartbeats 8000000 in
theorem plays_walk (R : Int) (a : Option Addr) (len cap : Nat) (q : Nat → Int × F) (w : World) (hq : AskF w a q len) (hlen : len ≤ 9223372036854775807) : Calls Try.prog 4 #[.int .i64 R, .slice a len cap] w fun e w' => e = .returned (.bool true) ∧ Below w.heap.size w w' := by
  by_cases hR : R < 1 ∨ 256 < R
  · have HRR : Hid (R < 1 ∨ 256 < R) := hR
    clear hR
    by_cases hR1 : R < 1
    · go_enter Try.func4, Try.ntmps4
      go_wp2_with fail
      refine (new_no R HRR.out _).mono ?_
      rintro e w1 ⟨rfl, rfl⟩
      go_wp2_with fail
      refine (runs_any _).mono ?_
      rintro e w2 ⟨rfl, B2⟩
      go_wp2_with fail
      go_ret
      exact ⟨rfl, B2⟩
    · have hR2 : 256 < R := by have := HRR.out; omega
      go_enter Try.func4, Try.ntmps4
      go_wp2_with fail
      refine (new_no R HRR.out _).mono ?_
      rintro e w1 ⟨rfl, rfl⟩
      go_wp2_with fail
      refine (runs_any _).mono ?_
      rintro e w2 ⟨rfl, B2⟩
      go_wp2_with fail
      go_ret
      exact ⟨rfl, B2⟩
  · obtain ⟨room, rfl⟩ : ∃ room : Nat, R = (room : Int) := ⟨R.toNat, by omega⟩
    have r1 : 1 ≤ room := by omega
    have r2 : room ≤ 256 := by omega
    have HQ : Hid (AskF w a q len) := hq
    clear hR hq
    go_enter Try.func4, Try.ntmps4
    go_wp2_with fail
    refine (new_yes room r1 r2 _ o0).mono ?_
    rintro e w1 ⟨b, c, o1, rfl, I1, F1, hc⟩
    have HI1 : Hid (IsBox w1 o1 b c room []) := I1
    have HF1 : Hid (Fr TN o0 o1 w w1) := F1.mono (fun _ h => h.elim)
    clear I1 F1 hc
    go_wp2_with fail
    go_loopw [7, 8] (fun V y wr => ∃ (i n : Nat) (l : List F) (o : Nat → Nat × Nat) (va : Option Addr) (vc : Nat), V = .slice va n vc ∧ y = .int .i64 (i : Int) ∧ i ≤ 100 ∧ i ≤ len ∧ n ≤ room ∧ Hid (n = l.length) ∧ Hid (IsBox wr o b c room l) ∧ Hid (OwnO wr o (8, 0) 9 (.slice va n vc) n (fc l)) ∧ Hid (Fr TN o0 o w wr)) (fun _ y _ => 100 - (intOf y).toNat)
    case atStart => exact ⟨0, 0, [], o1, none, 0, rfl, rfl, by omega, by omega, by omega, rfl, HI1, OwnO.nil _ _ _ _, HF1⟩
    case round =>
      clear HI1 HF1
      obtain ⟨i, n, l, o, va, vc, rfl, rfl, hi, hil, hn, HN, HI, HO, HF⟩ := hrel
      by_cases hlt : i < len
      · by_cases h100 : i < 100
        · rcases HQ.out with h0 | ⟨p, off, e1, hall⟩
          · omega
          · subst e1
            obtain ⟨k0, fr0⟩ := hall i hlt
            have k1 := HF.out.cell k0 (fun x => x rfl)
            obtain ⟨d0, d1, d2, d3, d4, d5, d6, d7, d8⟩ := (fr0.fr HF.out (fun x => x rfl)).cells
            obtain ⟨K, hK⟩ : ∃ K, K = (q i).1 := ⟨_, rfl⟩
            obtain ⟨f, hf⟩ : ∃ f, f = (q i).2 := ⟨_, rfl⟩
            rw [← hK] at k1
            rw [← hf] at d0 d1 d2 d3 d4 d5 d6 d7 d8
            have hi1 : (i : Int) < (len : Int) := by omega
            have HFA : Hid (FrmAt w p (off + i * 10 + 1) f) := by rw [hf]; exact fr0
            clear hall k0 fr0 hK hf
            by_cases hk : K = 1
            · subst hk
              by_cases hroom : n < room
              · have g0 : (n : Int) < (room : Int) := by omega
                go_wp2_with fail
                refine (put_yes f _ HI.out (by rw [← HN.out]; exact hroom)).mono ?_
                rintro e w2 ⟨rfl, I2, F2⟩
                have FT2 := HF.out.trans (F2.mono (fun t e h => by rw [e] at h; cases h) : Fr TN _ _ _ _)
                obtain ⟨v3, w3, o3, hrun, O3, F3⟩ := app_oneO (by decide) 30 26 Z.v 88 under30 info26 (by kernel_rfl) (HO.out.fr F2 (fun e => by cases e)) f.cs rfl (fun u hu => fc_one [f] u (by simpa [fc] using hu)) (by omega) (by omega)
                obtain ⟨a3, c3, rfl, _⟩ := O3.form
                have HO3 : Hid (OwnO w3 o3 (8, 0) 9 (.slice a3 (n + 1) c3) (n + 1) (fc (l ++ [f]))) := by
                  show OwnO _ _ _ _ _ _ _; rw [fc_append]; simpa [fc] using O3
                have HI3 : Hid (IsBox w3 o3 b c room (l ++ [f])) := I2.fr F3 (fun e => by cases e) (fun e => by cases e)
                have HF3 : Hid (Fr TN o0 o3 w w3) := FT2.trans (F3.mono (fun t e h => by rw [e] at h; cases h))
                have HN3 : Hid (n + 1 = (l ++ [f]).length) := by show _ = _; rw [List.length_append, ← HN.out]; rfl
                obtain ⟨y0, y1, y2, y3, y4, y5, y6, y7, y8⟩ := (HFA.out.fr FT2 (fun x => x rfl)).cells
                simp only [F.cs] at hrun
                clear d0 d1 d2 d3 d4 d5 d6 d7 d8 k1 I2 F2 FT2 O3 F3 HI HO HF HN HFA
                go_wp2_with (at_builtin; refine wpList_append_run rfl (.tmp 68) (.tmp 74) 30 30 rfl _ _ _ rfl rfl hrun ?_)
                refine (len_any _ HI3.out).mono ?_
                rintro e w4 ⟨rfl, rfl⟩
                rw [← HN3.out]
                clear hrun y0 y1 y2 y3 y4 y5 y6 y7 y8
                go_wp2_with fail
                exact ⟨⟨i + 1, n + 1, l ++ [f], o3, a3, c3, rfl, by go_num, by omega, by omega, by omega, HN3, HI3, HO3, HF3⟩, by simp [intOf]; omega⟩
              · have g0 : decide ((n : Int) < (room : Int)) = false := by simp; omega
                go_wp2_with fail
                refine (put_no f _ HI.out (by rw [← HN.out]; omega)).mono ?_
                rintro e w2 ⟨rfl, I2, F2⟩
                have HI3 : Hid (IsBox w2 o b c room l) := I2
                have HO3 : Hid (OwnO w2 o (8, 0) 9 (.slice va n vc) n (fc l)) := HO.out.fr F2 id
                have HF3 : Hid (Fr TN o0 o w w2) := HF.out.trans (F2.mono (fun _ h => h.elim))
                clear d0 d1 d2 d3 d4 d5 d6 d7 d8 k1 I2 F2 HI HO HF HFA
                go_wp2_with fail
                refine (len_any _ HI3.out).mono ?_
                rintro e w4 ⟨rfl, rfl⟩
                rw [← HN.out]
                go_wp2_with fail
                exact ⟨⟨i + 1, n, l, o, va, vc, rfl, by go_num, by omega, by omega, by omega, HN, HI3, HO3, HF3⟩, by simp [intOf]; omega⟩
            · have kf : (K == 1) = false := by simpa using hk
              clear d0 d1 d2 d3 d4 d5 d6 d7 d8 HFA
              cases l with
              | nil =>
                have hn0 : n = 0 := HN.out
                subst hn0
                go_wp2_with fail
                refine (take_no _ HI.out).mono ?_
                rintro e w2 ⟨rfl, F2⟩
                have HF2 : Hid (∀ ob n, Fr (fun _ => False) o o wr ((w2.alloc ob).drewN n)) := fun ob n => (F2.trans (Fr.alloc _ _ _ _)).trans (Fr.drewN _ _ _ _)
                have hne := fun w => neq26 w Z
                simp only [Z, F.v, F.cs] at hne ⊢
                clear F2 k1
                go_wp2_with fail
                go_quiet (fail)
                obtain ⟨W, hW⟩ : ∃ W, W = (w2.alloc (.cells #[.int .i64 0, .int .i64 0, .int .i64 0, .int .i64 0, .int .i64 0, .int .i64 0, .string ⟨#[]⟩, .int .i64 0, .string ⟨#[]⟩] 26)).drewN nq := ⟨_, rfl⟩
                have F3 := HF2.out (.cells #[.int .i64 0, .int .i64 0, .int .i64 0, .int .i64 0, .int .i64 0, .int .i64 0, .string ⟨#[]⟩, .int .i64 0, .string ⟨#[]⟩] 26) nq
                rw [← hW] at F3 ⊢
                have HI3 : Hid (IsBox W o b c room []) := HI.out.fr F3 id id
                have HO3 : Hid (OwnO W o (8, 0) 9 (.slice va 0 vc) 0 (fc [])) := HO.out.fr F3 id
                have HF3 : Hid (Fr TN o0 o w W) := HF.out.trans (F3.mono (fun _ h => h.elim))
                clear hW F3 HF2 HI HO HF hne
                go_wp2_with fail
                refine (len_any _ HI3.out).mono ?_
                rintro e w4 ⟨rfl, rfl⟩
                rw [show ((([] : List F).length : Nat) : Int) = 0 from rfl]
                go_wp2_with fail
                exact ⟨⟨i + 1, 0, [], o, va, vc, rfl, by go_num, by omega, by omega, by omega, rfl, HI3, HO3, HF3⟩, by simp [intOf]; omega⟩
              | cons g l =>
                obtain ⟨m, hm⟩ : ∃ m, m = l.length := ⟨_, rfl⟩
                have hnm : n = m + 1 := by rw [HN.out, hm]; rfl
                subst hnm
                have HM : Hid (m = l.length) := hm
                clear hm
                have m1 : (0 : Int) < ((m + 1 : Nat) : Int) := by omega
                go_wp2_with fail
                refine (take_yes g _ HI.out).mono ?_
                rintro e w2 ⟨rfl, I2, F2⟩
                have F2a : Fr (· = (1, c)) o o wr (w2.alloc (.cells g.cs.toArray 26)) := F2.trans (Fr.alloc _ _ _ _)
                obtain ⟨gg, off2, e2, hfr⟩ := (HO.out.fr F2a (fun e => by cases e)).head
                subst e2
                obtain ⟨ua, uc, hsl, OT⟩ := (HO.out.fr F2a (fun e => by cases e)).tail
                have HI2 : Hid (∀ n, IsBox ((w2.alloc (.cells g.cs.toArray 26)).drewN n) o b c room l) := fun n => (I2.alloc _).fr (Fr.drewN (fun _ => False) _ _ _) id id
                have HO2 : Hid (∀ n, OwnO ((w2.alloc (.cells g.cs.toArray 26)).drewN n) o (8, 0) 9 (.slice ua m uc) m (fc l)) := fun n => OT.fr (Fr.drewN (fun _ => False) _ _ _) id
                have HF2 : Hid (∀ n, Fr TN o0 o w ((w2.alloc (.cells g.cs.toArray 26)).drewN n)) := fun n => (HF.out.trans (F2a.mono (fun t e h => by rw [e] at h; cases h))).trans (Fr.drewN _ _ _ _)
                obtain ⟨y0, y1, y2, y3, y4, y5, y6, y7, y8⟩ := hfr.cells
                have hne := fun w => neq26 w g
                obtain ⟨a0, a1, a2, a3, a4, a5, a6, a7, a8⟩ := g
                simp only [F.v, F.cs] at hne y0 y1 y2 y3 y4 y5 y6 y7 y8 HI2 HO2 HF2 ⊢
                clear F2 F2a I2 OT hfr k1 HI HO HF HN
                go_wp2_with fail
                go_quiet (fail)
                obtain ⟨W, hW⟩ : ∃ W, W = (w2.alloc (.cells #[.int .i64 a0, .int .i64 a1, .int .i64 a2, .int .i64 a3, .int .i64 a4, .int .i64 a5, .string a6, .int .i64 a7, .string a8] 26)).drewN nq := ⟨_, rfl⟩
                have I3 := HI2.out nq
                have O3 := HO2.out nq
                have F3 := HF2.out nq
                rw [← hW] at I3 O3 F3 ⊢
                have HI3 : Hid (IsBox W o b c room l) := I3
                have HO3 : Hid (OwnO W o (8, 0) 9 (.slice ua m uc) m (fc l)) := O3
                have HF3 : Hid (Fr TN o0 o w W) := F3
                clear hW I3 O3 F3 HI2 HO2 HF2 hne y0 y1 y2 y3 y4 y5 y6 y7 y8
                go_wp2_with fail
                refine (len_any _ HI3.out).mono ?_
                rintro e w4 ⟨rfl, rfl⟩
                rw [← HM.out]
                go_wp2_with fail
                exact ⟨⟨i + 1, m, l, o, ua, uc, rfl, by go_num, by omega, by omega, by omega, HM, HI3, HO3, HF3⟩, by simp [intOf]; omega⟩
        · have g1 : decide ((i : Int) < 100) = false := by simp; omega
          have hi1 : (i : Int) < (len : Int) := by omega
          go_wp2_with fail
          refine (runs_any _).mono ?_
          rintro e w2 ⟨rfl, B2⟩
          go_wp2_with fail
          go_ret
          exact ⟨rfl, (HF.out.trans (Fr.ofBelow _ _ B2)).below (Nat.le_refl _) (fun b _ h => h rfl)⟩
      · have g1 : decide ((i : Int) < (len : Int)) = false := by simp; omega
        go_wp2_with fail
        refine (runs_any _).mono ?_
        rintro e w2 ⟨rfl, B2⟩
        go_wp2_with fail
        go_ret
        exact ⟨rfl, (HF.out.trans (Fr.ofBelow _ _ B2)).below (Nat.le_refl _) (fun b _ h => h rfl)⟩
end Go.Proofs.Ytpepklgahljhbaa
