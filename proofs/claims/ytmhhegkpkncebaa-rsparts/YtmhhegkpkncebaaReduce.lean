/-
  REDUCE of the program: its contract.
-/
import Derived.Test.YtmhhegkpkncebaaClear2
import Derived.Test.YtmhhegkpkncebaaRed
import Derived.WalkMore
namespace Go.Proofs.Ytmhhegkpkncebaa
open Go.RowKit

set_option maxHeartbeats 4000000 in
set_option maxRecDepth 100000 in
theorem reduce_any {B g m n : Nat} {P : Nat → Nat} {A : Nat → Nat → Nat} (b d : Nat) (D : Int) (hD : D = (d : Int)) (hA : Gf.B8 A) (hd : d ≤ n) (hm : m ≤ 64) (hn : n ≤ 64) (w : World) (G : Grid w B g P A m n m) (hT : HasTab w b) :
    Calls Try.prog 58 #[.pointer (some ⟨b, 1, none⟩), .slice (some ⟨g, 0, none⟩) m m, .int .i64 D] w fun e w' => ∃ r pc P' A', e = .returned (.int .i64 ((r : Nat) : Int)) ∧ Grid w' B g P' A' m n m ∧ HasTab w' b ∧ Below B w w' ∧ Gf.Steps m A A' ∧ Gf.Red m d r pc A' := by
  subst hD
  have HA : Hid (Gf.B8 A) := hA
  have G0 : Hid (Grid w B g P A m n m) := G
  clear G hA
  go_enter Try.func58, Try.ntmps58
  go_wp2_with fail
  go_step3
  go_wp2_with fail
  go_step3
  go_wp2_with fail
  go_loopw [7, 11] (fun y x wr => ∃ (r c : Nat) (pc P' : Nat → Nat) (A' : Nat → Nat → Nat), c ≤ d ∧ r ≤ m ∧ y = .int .i64 (r : Int) ∧ x = .int .i64 (c : Int) ∧ Hid (Grid wr B g P' A' m n m) ∧ HasTab wr b ∧ Hid (Below B w wr) ∧ Hid (Gf.Steps m A A') ∧ Hid (Gf.Red m c r pc A')) (fun _ x _ => d - (intOf x).toNat)
  case atStart => exact ⟨0, 0, fun _ => 0, P, A, by omega, by omega, rfl, rfl, G0, hT, Below.refl _ _, .start, .start m _ A⟩
  case round =>
    obtain ⟨r, c, pc, P', A', hc, hr, rfl, rfl, HG, hT', HB, HS, HR⟩ := hrel
    clear G0 hT
    by_cases hlt : c < d
    · have hi1 : (c : Int) < (d : Int) := by omega
      go_wp2_with fail
      go_loopw [7, 9] (fun y x w2 => ∃ t : Nat, r ≤ t ∧ t ≤ m ∧ y = .int .i64 (r : Int) ∧ x = .int .i64 (t : Int) ∧ Hid (∀ s, r ≤ s → s < t → A' s c = 0) ∧ Hid (Grid w2 B g P' A' m n m) ∧ HasTab w2 b ∧ Hid (Below B w w2)) (fun _ x _ => m - (intOf x).toNat)
      case atStart => exact ⟨r, by omega, hr, rfl, rfl, fun s h1 h2 => by omega, HG, hT', HB⟩
      case round =>
        obtain ⟨t, ht1, ht2, rfl, rfl, HZ, HG, hT', HB⟩ := hrel
        by_cases htm : t < m
        · have hi2 : (t : Int) < (m : Int) := by omega
          have hi3 : (r : Int) < (m : Int) := by omega
          have hi4 : (c : Int) < (n : Int) := by omega
          have d1 := HG.out.tcell htm
          have d2 := HG.out.cell htm (j := c) (by omega)
          by_cases h0 : A' t c = 0
          · have n1 : (((A' t c : Nat) : Int) == 0) = true := by simp; omega
            have HZ' : Hid (∀ s, r ≤ s → s < t + 1 → A' s c = 0) := fun s h1 h2 => by
              by_cases e : s = t
              · rw [e]; exact h0
              · exact HZ.out s h1 (by omega)
            clear HZ h0
            go_wp2_with fail
            exact ⟨⟨t + 1, by omega, by omega, rfl, by go_num, HZ', HG, hT', HB⟩, by simp [intOf]; omega⟩
          · have n1 : (((A' t c : Nat) : Int) == 0) = false := by simp; omega
            have H0 : Hid (A' t c ≠ 0) := h0
            clear h0
            have d3 := HG.out.tcell (i := r) (by omega)
            have f1 := HG.out.tfz t
            have f2 := HG.out.tfz r
            obtain ⟨v', hy'⟩ := cell?_setCell_some (w := wr) (p := ⟨g, r, none⟩) (x := .slice (some ⟨P' t, 0, none⟩) n n) (q := ⟨g, t, none⟩) (v := .slice (some ⟨P' t, 0, none⟩) n n) (by go_simp)
            have GS : Hid (Grid (((wr.setCell ⟨g, r, none⟩ (.slice (some ⟨P' t, 0, none⟩) n n)).setCell ⟨g, t, none⟩ (.slice (some ⟨P' r, 0, none⟩) n n)).drew) B g (swapP r t P') (Gf.swapR r t A') m n m) := (HG.out.swap (by omega) htm (Nat.le_refl _)).alike ⟨rfl, rfl, rfl, rfl⟩
            have TS : Hid (HasTab (((wr.setCell ⟨g, r, none⟩ (.slice (some ⟨P' t, 0, none⟩) n n)).setCell ⟨g, t, none⟩ (.slice (some ⟨P' r, 0, none⟩) n n)).drew) b) := ((hT'.set (hT'.neg HG.out) _).set (hT'.neg HG.out) _).alike ⟨rfl, rfl, rfl, rfl⟩
            have BS : Hid (Below B w (((wr.setCell ⟨g, r, none⟩ (.slice (some ⟨P' t, 0, none⟩) n n)).setCell ⟨g, t, none⟩ (.slice (some ⟨P' r, 0, none⟩) n n)).drew)) := below_alike ((HB.out.setCell HG.out.gB _).setCell HG.out.gB _) ⟨rfl, rfl, rfl, rfl⟩
            clear HG hT' HB
            go_wp2_with fail
            go_region
            all_goals
              go_wp2_with fail
              refine (clear_any b r c _ _ rfl rfl (Gf.swapR_B8 (HS.out.b HA.out) r t) (by omega) (by omega) hm hn _ GS.out TS.out).mono ?_
              rintro e w2 ⟨rfl, G4, T4, B4⟩
              have G5 : Hid (Grid w2 B g (swapP r t P') (Gf.clr r c (Gf.swapR r t A')) m n m) := G4
              have B5 : Hid (Below B w w2) := BS.out.trans B4
              have S5 : Hid (Gf.Steps m A (Gf.clr r c (Gf.swapR r t A'))) := .clr (.swap HS.out (by omega) htm) (by omega) (by unfold Gf.swapR; rw [if_pos rfl]; exact H0.out)
              have R5 : Hid (Gf.Red m (c + 1) (r + 1) (fun x => if x = r then c else pc x) (Gf.clr r c (Gf.swapR r t A'))) := HR.out.step (HS.out.b HA.out) ht1 htm H0.out
              clear GS TS BS G4 B4
              go_wp2_with fail
              exact ⟨⟨r + 1, c + 1, _, _, _, by omega, by omega, by go_num, by go_num, G5, T4, B5, S5, R5⟩, by simp [intOf]; omega⟩
        · have htm' : t = m := by omega
          have i5 : decide ((t : Int) < (m : Int)) = false := by simp; omega
          have R5 : Hid (Gf.Red m (c + 1) r pc A') := HR.out.skip (fun i h1 h2 => HZ.out i h1 (by omega))
          clear HZ htm' 
          go_wp2_with fail
          exact ⟨⟨r, c + 1, pc, P', A', by omega, by omega, rfl, by go_num, HG, hT', HB, HS, R5⟩, by simp [intOf]; omega⟩
    · have hcd : c = d := by omega
      subst hcd
      have j1 : decide ((c : Int) < (c : Int)) = false := by simp
      go_wp2_with fail
      simp only [Exit.noGoto_ret]
      go_ret
      exact ⟨r, pc, P', A', rfl, HG.out, hT', HB.out, HS.out, HR.out⟩
end Go.Proofs.Ytmhhegkpkncebaa
