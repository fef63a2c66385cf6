/-
  The walk of the law GfDot, over the contracts: Dot of any rows of bytes is the sum of the document's own products; the rows stay.
-/
import Derived.Test.YtadabbodjkdkdaaBook
import Derived.Test.YtadabbodjkdkdaaRef
namespace Go.Proofs.Ytadabbodjkdkdaa
open Go.RowKit

theorem dotN_congr (f f' g g' : Nat → Nat) (n : Nat) (hf : ∀ i, i < n → f i = f' i) (hg : ∀ i, i < n → g i = g' i) : Gf.dotN f g n = Gf.dotN f' g' n := by
  induction n with
  | zero => rfl
  | succ n ih =>
    show Gf.dotN f g n ^^^ Gf.mul (f n) (g n) = Gf.dotN f' g' n ^^^ Gf.mul (f' n) (g' n)
    rw [ih (fun i hi => hf i (by omega)) (fun i hi => hg i (by omega)), hf n (by omega), hg n (by omega)]
theorem intact_up {Y : World} (G : Nat) (a : Option Addr) (l c M : Nat) (X : Int) (f : Nat → Nat) (hX : X = (M : Int)) (hl : l ≤ 140737488351232) (rg : RowF Y (some ⟨G, 0, none⟩) (roomF f l M) (l + 80)) (ra : RowF Y a f l) (s : Up Y) :
    Calls Try.prog 20 #[.slice (some ⟨G, 0, none⟩) (l + 80) (l + 80), .slice a l c, .int .u8 X] s.w fun e w' => e = .returned (.bool true) ∧ ∃ s' : Up Y, w' = s'.w := by
  refine (intact_any G a l c M X f hX hl s.w (rg.below s.h) (ra.below s.h)).mono ?_
  rintro e w' ⟨rfl, n, rfl⟩
  exact ⟨rfl, ⟨s.w.drewN n, below_drewN s.h n⟩, rfl⟩
theorem roomF_lt {f : Nat → Nat} (hf : ∀ i, f i < 256) (l M : Nat) (hM : M < 256) (i : Nat) : roomF f l M i < 256 := by
  unfold roomF; split
  · exact hf i
  · exact hM

set_option maxHeartbeats 2000000 in
theorem gfdot_any (a0 a1 : Option Addr) (l0 l1 c0 c1 : Nat) (f0 f1 : Nat → Nat) (w : World)
    (b0 : ∀ i, f0 i < 256) (b1 : ∀ i, f1 i < 256) (h0 : l0 ≤ 140737488351232) (h1 : l1 ≤ 140737488351232) (r0 : RowF w a0 f0 l0) (r1 : RowF w a1 f1 l1) :
    Calls Try.prog 5 #[.slice a0 l0 c0, .slice a1 l1 c1] w fun e w' => e = .returned (.bool true) ∧ Below w.heap.size w w' := by
  have hz := zero25
  go_enter Try.func5, Try.ntmps5
  go_wp2_with fail
  refine (make_is w).mono ?_
  rintro e w1 ⟨T, hT, rfl, hb⟩
  have ht := hT.size
  have hst := store_tab hT w1
  go_wp2_with fail
  obtain ⟨b, W, eb, eW, hTab, hb1, hs, hB⟩ := tab_world hT hb
  rw [← eb, ← eW]
  clear hst ht hz eb eW hb hT
  refine (roomy_any a0 l0 c0 7 _ f0 rfl h0 W (r0.below hB)).mono ?_
  rintro e w3 ⟨rfl, rG1, hB3⟩
  obtain ⟨G1, eG1⟩ : ∃ G, G = W.heap.size := ⟨_, rfl⟩
  rw [← eG1] at rG1 ⊢
  have B3 : Below w.heap.size w w3 := hB.trans (hB3.mono hB.size)
  have T3 : HasTab w3 b := hTab.up hB3
  clear eG1 hB3 hTab hs hB
  go_wp2_with fail
  refine (roomy_any a1 l1 c1 8 _ f1 rfl h1 w3 (r1.below B3)).mono ?_
  rintro e w4 ⟨rfl, rG2, hB4⟩
  obtain ⟨G2, eG2⟩ : ∃ G, G = w3.heap.size := ⟨_, rfl⟩
  rw [← eG2] at rG2 ⊢
  have B4 : Below w.heap.size w w4 := B3.trans (hB4.mono B3.size)
  have T4 : HasTab w4 b := T3.up hB4
  have RG1 : RowF w4 (some ⟨G1, 0, none⟩) (roomF f0 l0 7) (l0 + 80) := rG1.below hB4
  have R0 : RowF w4 a0 f0 l0 := r0.below B4
  have R1 : RowF w4 a1 f1 l1 := r1.below B4
  clear eG2 hB4 T3 B3 rG1 r0 r1
  go_wp2_with fail
  go_loopw [8, 9] (fun s i wr => ∃ k n S : Nat, k ≤ l0 ∧ k ≤ l1 ∧ S < 256 ∧ i = .int .i64 (k : Int) ∧ s = .int .u8 (S : Int) ∧ Hid (S = Gf.dotN f0 f1 k) ∧ Hid (wr = w4.drewN n)) (fun _ i _ => l0 - (intOf i).toNat)
  case atStart => exact ⟨0, 0, 0, by omega, by omega, by omega, rfl, rfl, rfl, rfl⟩
  case round =>
    obtain ⟨k, n, S, k1, k2, hS, rfl, rfl, HS, HW⟩ := hrel
    by_cases hlt : k < l0 ∧ k < l1
    · obtain ⟨g1, g2⟩ := hlt
      obtain ⟨p, o, rfl, q1⟩ : ∃ p off, a0 = some ⟨p, off, none⟩ ∧ ∀ i, i < l0 → w4.cell? ⟨p, off + i, none⟩ = some (.int .u8 ((f0 i : Nat) : Int)) := by
        rcases R0 with r | r
        · exfalso; omega
        · exact r
      obtain ⟨p', o', rfl, q2⟩ : ∃ p off, a1 = some ⟨p, off, none⟩ ∧ ∀ i, i < l1 → w4.cell? ⟨p, off + i, none⟩ = some (.int .u8 ((f1 i : Nat) : Int)) := by
        rcases R1 with r | r
        · exfalso; omega
        · exact r
      have d1 : wr.cell? ⟨p, o + k, none⟩ = some (.int .u8 ((f0 k : Nat) : Int)) := (by rw [HW.out]; exact q1 k g1)
      have d2 : wr.cell? ⟨p', o' + k, none⟩ = some (.int .u8 ((f1 k : Nat) : Int)) := (by rw [HW.out]; exact q2 k g2)
      have x1 := b0 k
      have x2 := b1 k
      have x3 := Gf.mul_lt (f0 k) (f1 k)
      have x4 := Gf.xor_lt hS x3
      have hx := xor_u8 S (Gf.mul (f0 k) (f1 k)) hS x3
      clear q1 q2 R0 R1 RG1 rG2 T4 b0 b1
      have i1 : (k : Int) < (l0 : Int) := by omega
      have i2 : (k : Int) < (l1 : Int) := by omega
      go_wp2
      go_quiet ((go_at_call 16; exact Calls.quiet_of_same (rmul_any _ _ x1 x2 _)))
      go_wp2
      go_roundw
      case rel => exact ⟨k + 1, n + nq, S ^^^ Gf.mul (f0 k) (f1 k), by omega, by omega, x4, by go_num, rfl, by show _ = _; rw [HS.out]; rfl, by show _ = _; rw [HW.out, World.drewN_drewN]⟩
      case measure => simp [intOf]; omega
    · by_cases g1 : k < l0
      · have i1 : (k : Int) < (l0 : Int) := by omega
        have i2 : decide ((k : Int) < (l1 : Int)) = false := by simp; omega
        obtain ⟨Y, eY, hT, yB, r0, r1, q1, q2⟩ : ∃ Y, Y = ({ wr with drawn := wr.drawn + 1 } : World) ∧ HasTab Y b ∧ Below w.heap.size w Y ∧ RowF Y a0 f0 l0 ∧ RowF Y a1 f1 l1 ∧ RowF Y (some ⟨G1, 0, none⟩) (roomF f0 l0 7) (l0 + 80) ∧ RowF Y (some ⟨G2, 0, none⟩) (roomF f1 l1 8) (l1 + 80) := by
          rw [HW.out]
          exact ⟨_, rfl, T4, below_drewN B4 (n + 1), R0, R1, RG1, rG2⟩
        go_wp2_with fail
        refine region_up (by kernel_rfl) (by kernel_rfl) Y eY ?_
        clear eY HW T4 B4 R0 R1 RG1 rG2
        have s0 := slice_hi (some ⟨G1, 0, none⟩) (l0 + 80) (l0 + 80) l0 (by omega)
        have s1 := slice_hi (some ⟨G2, 0, none⟩) (l1 + 80) (l1 + 80) l1 (by omega)
        have N0 : RowF Y (sl (some ⟨G1, 0, none⟩) 0 (l0 + 80)) (roomF f0 l0 7) l0 := q1.head l0 (l0 + 80) (by omega) (by omega)
        have N1 : RowF Y (sl (some ⟨G2, 0, none⟩) 0 (l1 + 80)) (roomF f1 l1 8) l1 := q2.head l1 (l1 + 80) (by omega) (by omega)
        have t1 : Hid (((Gf.dotN (roomF f0 l0 7) (roomF f1 l1 8) (min l0 l1) : Nat) : Int) = (S : Int)) := by
          show _ = _
          rw [HS.out, show min l0 l1 = k from by omega]
          rw [dotN_congr (roomF f0 l0 7) f0 (roomF f1 l1 8) f1 k (fun i hi => by unfold roomF; rw [if_pos (by omega)]) (fun i hi => by unfold roomF; rw [if_pos (by omega)])]
        clear HS
        have ne : Nonempty (Up Y) := ⟨⟨Y, Below.refl _ _⟩⟩
        repeat quiet_step (fail)
        quiet_step (exact dot_up b l0 l1 (l0 + 80) (l1 + 80) (sl (some ⟨G1, 0, none⟩) 0 (l0 + 80)) (sl (some ⟨G2, 0, none⟩) 0 (l1 + 80)) _ _ (roomF_lt b0 l0 7 (by decide)) (roomF_lt b1 l1 8 (by decide)) (by omega) (by omega) hT N0 N1 _ t1.out _)
        repeat quiet_step (fail)
        quiet_step (exact intact_up G1 a0 l0 c0 7 _ f0 rfl h0 q1 r0 _)
        repeat quiet_step (fail)
        quiet_step (exact intact_up G2 a1 l1 c1 8 _ f1 rfl h1 q2 r1 _)
        repeat quiet_step (fail)
        quiet_step (exact runs_up _)
        repeat quiet_step (fail)
        refine wpQuiet_nil ?_
        rintro w5 ⟨s, rfl⟩
        have fB : Below w.heap.size w s.w := yB.trans (s.h.mono yB.size)
        go_wp2_with fail
        go_ret
        exact ⟨rfl, fB⟩
      · have i1 : decide ((k : Int) < (l0 : Int)) = false := by simp; omega
        obtain ⟨Y, eY, hT, yB, r0, r1, q1, q2⟩ : ∃ Y, Y = ({ wr with drawn := wr.drawn + 1 } : World) ∧ HasTab Y b ∧ Below w.heap.size w Y ∧ RowF Y a0 f0 l0 ∧ RowF Y a1 f1 l1 ∧ RowF Y (some ⟨G1, 0, none⟩) (roomF f0 l0 7) (l0 + 80) ∧ RowF Y (some ⟨G2, 0, none⟩) (roomF f1 l1 8) (l1 + 80) := by
          rw [HW.out]
          exact ⟨_, rfl, T4, below_drewN B4 (n + 1), R0, R1, RG1, rG2⟩
        go_wp2_with fail
        refine region_up (by kernel_rfl) (by kernel_rfl) Y eY ?_
        clear eY HW T4 B4 R0 R1 RG1 rG2
        have s0 := slice_hi (some ⟨G1, 0, none⟩) (l0 + 80) (l0 + 80) l0 (by omega)
        have s1 := slice_hi (some ⟨G2, 0, none⟩) (l1 + 80) (l1 + 80) l1 (by omega)
        have N0 : RowF Y (sl (some ⟨G1, 0, none⟩) 0 (l0 + 80)) (roomF f0 l0 7) l0 := q1.head l0 (l0 + 80) (by omega) (by omega)
        have N1 : RowF Y (sl (some ⟨G2, 0, none⟩) 0 (l1 + 80)) (roomF f1 l1 8) l1 := q2.head l1 (l1 + 80) (by omega) (by omega)
        have t1 : Hid (((Gf.dotN (roomF f0 l0 7) (roomF f1 l1 8) (min l0 l1) : Nat) : Int) = (S : Int)) := by
          show _ = _
          rw [HS.out, show min l0 l1 = k from by omega]
          rw [dotN_congr (roomF f0 l0 7) f0 (roomF f1 l1 8) f1 k (fun i hi => by unfold roomF; rw [if_pos (by omega)]) (fun i hi => by unfold roomF; rw [if_pos (by omega)])]
        clear HS
        have ne : Nonempty (Up Y) := ⟨⟨Y, Below.refl _ _⟩⟩
        repeat quiet_step (fail)
        quiet_step (exact dot_up b l0 l1 (l0 + 80) (l1 + 80) (sl (some ⟨G1, 0, none⟩) 0 (l0 + 80)) (sl (some ⟨G2, 0, none⟩) 0 (l1 + 80)) _ _ (roomF_lt b0 l0 7 (by decide)) (roomF_lt b1 l1 8 (by decide)) (by omega) (by omega) hT N0 N1 _ t1.out _)
        repeat quiet_step (fail)
        quiet_step (exact intact_up G1 a0 l0 c0 7 _ f0 rfl h0 q1 r0 _)
        repeat quiet_step (fail)
        quiet_step (exact intact_up G2 a1 l1 c1 8 _ f1 rfl h1 q2 r1 _)
        repeat quiet_step (fail)
        quiet_step (exact runs_up _)
        repeat quiet_step (fail)
        refine wpQuiet_nil ?_
        rintro w5 ⟨s, rfl⟩
        have fB : Below w.heap.size w s.w := yB.trans (s.h.mono yB.size)
        go_wp2_with fail
        go_ret
        exact ⟨rfl, fB⟩
end Go.Proofs.Ytadabbodjkdkdaa
