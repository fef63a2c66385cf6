/-
  The walk of the law GfDots, over the contracts: a row's dot goes on over its parts, is the same both ways, and goes over sums.
-/
import Derived.Test.YtadabbodjkdkdaaUp
namespace Go.Proofs.Ytadabbodjkdkdaa
open Go.RowKit

set_option maxRecDepth 100000 in
set_option maxHeartbeats 1000000 in
theorem dots_any (a0 a1 a2 : Option Addr) (l0 l1 l2 c0 c1 c2 n : Nat) (f0 f1 f2 : Nat → Nat) (cut : Int) (w : World)
    (b0 : ∀ i, f0 i < 256) (b1 : ∀ i, f1 i < 256) (b2 : ∀ i, f2 i < 256)
    (hn : n = min l0 (min l1 l2)) (k0 : l0 ≤ c0) (k1 : l1 ≤ c1) (k2 : l2 ≤ c2) (hc : c0 ≤ 140737488351232)
    (r0 : RowF w a0 f0 n) (r1 : RowF w a1 f1 n) (r2 : RowF w a2 f2 n) :
    Calls Try.prog 8 #[.slice a0 l0 c0, .slice a1 l1 c1, .slice a2 l2 c2, .int .i64 cut] w fun e w' => e = .returned (.bool true) ∧ Below w.heap.size w w' := by
  have m0 : n ≤ c0 := by omega
  have m1 : n ≤ c1 := by omega
  have m2 : n ≤ c2 := by omega
  have hmin : (if (l2 : Int) < (if l1 < l0 then (l1 : Int) else (l0 : Int)) then (l2 : Int) else (if l1 < l0 then (l1 : Int) else (l0 : Int))) = (n : Int) := by
    split <;> split <;> omega
  clear hn
  have hz := zero25
  go_enter Try.func8, Try.ntmps8
  go_wp2_with fail
  refine (make_is w).mono ?_
  rintro e w1 ⟨T, hT, rfl, hb⟩
  have ht := hT.size
  have hst := store_tab hT w1
  go_wp2_with fail
  obtain ⟨b, W, eb, eW, hTab, hb1, hs, hB⟩ := tab_world hT hb
  rw [← eb, ← eW]
  clear hst ht hz eb eW hb hT
  go_quiet (fail)
  go_wp2_with fail
  clear hmin
  obtain ⟨V, eV, vT, vB, vs⟩ : ∃ V, V = W.drewN nq ∧ HasTab V b ∧ Below w.heap.size w V ∧ b < V.heap.size := ⟨_, rfl, hTab.drewN nq, below_drewN hB nq, by show b < W.heap.size; omega⟩
  rw [← eV]
  clear eV hTab hB hs
  refine (within_c cut 0 _ n rfl rfl (by omega) _).mono ?_
  rintro e w2 ⟨⟨k, hk, rfl⟩, rfl⟩
  go_wp2_with fail
  obtain ⟨w3, cur, hrun, hg, hcs, hb3⟩ := make_bytes w2 n (by omega)
  rw [hrun]
  clear hrun
  have vB3 : Below w.heap.size w w3 := vB.trans (hb3.mono vB.size)
  have vT3 : HasTab w3 b := vT.below hb3 vs
  have hG : w.heap.size ≤ w2.heap.size := vB.size
  obtain ⟨G, eG⟩ : ∃ G, G = w2.heap.size := ⟨_, rfl⟩
  rw [← eG] at hg hG vs hb3 ⊢
  have vs3 : w.heap.size ≤ w3.heap.size := vB3.size
  clear eG hb3 vB vT
  go_wp2_with fail
  go_loopw [16] (fun i wr => ∃ (j : Nat) (C : Array Value), j ≤ n ∧ i = .int .i64 (j : Int) ∧ C.size = n ∧ Hid (wr.heap[G]? = some (.cells C 5 (0, 0))) ∧ Hid (∀ q, q < j → C[q]? = some (.int .u8 ((f1 q ^^^ f2 q : Nat) : Int))) ∧ HasTab wr b ∧ Below w.heap.size w wr) (fun i _ => n - (intOf i).toNat)
  case atStart => exact ⟨0, cur, by omega, rfl, hcs, hg, fun q hq => by omega, vT3, vB3⟩
  case round =>
    obtain ⟨j, C, hj, rfl, hC, HG, HQ, hT, hB⟩ := hrel
    clear hg hcs vT3 vB3 vs3
    by_cases hlt : j < n
    · obtain ⟨p1, o1, rfl, q1⟩ : ∃ p off, a1 = some ⟨p, off, none⟩ ∧ ∀ i, i < n → w.cell? ⟨p, off + i, none⟩ = some (.int .u8 ((f1 i : Nat) : Int)) := by
        rcases r1 with r | r
        · exfalso; omega
        · exact r
      obtain ⟨p2, o2, rfl, q2⟩ : ∃ p off, a2 = some ⟨p, off, none⟩ ∧ ∀ i, i < n → w.cell? ⟨p, off + i, none⟩ = some (.int .u8 ((f2 i : Nat) : Int)) := by
        rcases r2 with r | r
        · exfalso; omega
        · exact r
      have d1 := q1 j hlt
      have d2 := q2 j hlt
      have hi1 : (j : Int) < (n : Int) := by omega
      have hx := xor_u8 (f1 j) (f2 j) (b1 j) (b2 j)
      go_wp2_with fail
      refine wp_region_still_tail 12 (by kernel_rfl) (by kernel_rfl) ?_
      simp only [List.take_succ_cons, List.take_zero, List.drop_succ_cons, List.drop_zero]
      obtain ⟨Y, eY, y1, yB, yG⟩ : ∃ Y, Y = ({ wr with drawn := wr.drawn + 1 } : World) ∧ HasTab Y b ∧ Below w.heap.size w Y ∧ Y.heap[G]? = some (.cells C 5 (0, 0)) :=
        ⟨_, rfl, hT, below_drewN hB 1, HG.out⟩
      rw [← eY]
      clear eY hT hB HG
      have c1' : Y.cell? ⟨p1, o1 + j, none⟩ = some (.int .u8 ((f1 j : Nat) : Int)) := cell_later yB d1
      have c2' : Y.cell? ⟨p2, o2 + j, none⟩ = some (.int .u8 ((f2 j : Nat) : Int)) := cell_later yB d2
      have c3' : Y.cell? ⟨G, j, none⟩ = some (C[j]'(by omega)) := by rw [cell_of_row Y G j C 5 (0, 0) yG]; simp
      have fz : Y.frozen? ⟨G, j, none⟩ = false := by simp [World.frozen?, yG]
      have HY : Hid (Y.heap[G]? = some (.cells C 5 (0, 0))) := yG
      clear q1 q2 d1 d2 yG r0 r1 r2
      repeat still_step
      refine wpStill_nil ?_
      go_wp2_with fail
      exact round_step hlt hC hG vs HY.out HQ.out y1 yB (by simp [intOf]; omega)
    · have hjn : j = n := by omega
      subst hjn
      have rS : RowF wr (some ⟨G, 0, none⟩) (fun i => f1 i ^^^ f2 i) j := Or.inr ⟨G, 0, rfl, fun i hi => by
        rw [Nat.zero_add, cell_of_row wr G i C 5 (0, 0) HG.out]; exact HQ.out i hi⟩
      have R0 : RowF wr a0 f0 j := r0.below hB
      have R1 : RowF wr a1 f1 j := r1.below hB
      have R2 : RowF wr a2 f2 j := r2.below hB
      clear HG HQ hC r0 r1 r2 hlt
      obtain ⟨D, hD⟩ : ∃ v, Gf.dotN f0 f1 j = v := ⟨_, rfl⟩
      have E1 : Hid (((Gf.dotN f0 f1 (min j j) : Nat) : Int) = (D : Int)) := by show _ = _; rw [Nat.min_self, hD]
      have HD : Hid (Gf.dotN f0 f1 j = D) := hD
      clear hD
      go_wp2_with fail
      refine (dot_any b j j c0 c1 a0 a1 f0 f1 b0 b1 (by omega) (by omega) _ hT R0 R1).mono ?_
      rintro e w4 ⟨rfl, n4, rfl⟩
      rw [E1.out]
      go_wp2_with fail
      obtain ⟨Y, eY, hT, yB, R0, R1, R2, rS⟩ : ∃ Y, Y = ({ wr.drewN n4 with drawn := (wr.drewN n4).drawn + 1 } : World) ∧ HasTab Y b ∧ Below w.heap.size w Y ∧ RowF Y a0 f0 j ∧ RowF Y a1 f1 j ∧ RowF Y a2 f2 j ∧ RowF Y (some ⟨G, 0, none⟩) (fun i => f1 i ^^^ f2 i) j :=
        ⟨_, rfl, hT, below_drewN hB (n4 + 1), R0, R1, R2, rS⟩
      refine region_up (by kernel_rfl) (by kernel_rfl) Y eY ?_
      clear eY
      have bS : ∀ i, (fun i => f1 i ^^^ f2 i) i < 256 := fun i => Gf.xor_lt (b1 i) (b2 i)
      obtain ⟨DK, hDK⟩ : ∃ v, Gf.dotN f0 f1 k = v := ⟨_, rfl⟩
      obtain ⟨DL, hDL⟩ : ∃ v, Gf.dotN (fun i => f0 (k + i)) (fun i => f1 (k + i)) (j - k) = v := ⟨_, rfl⟩
      obtain ⟨S, hS⟩ : ∃ v, Gf.dotN f0 (fun i => f1 i ^^^ f2 i) j = v := ⟨_, rfl⟩
      obtain ⟨Z, hZ⟩ : ∃ v, Gf.dotN f0 f2 j = v := ⟨_, rfl⟩
      have t1 : Hid (((Gf.dotN f1 f0 (min j j) : Nat) : Int) = (D : Int)) := by show _ = _; rw [Nat.min_self, Gf.dotN_comm, HD.out]
      have t2 : Hid (((Gf.dotN f0 f1 (min k k) : Nat) : Int) = (DK : Int)) := by show _ = _; rw [Nat.min_self, hDK]
      have t3 : Hid (((Gf.dotN (fun i => f0 (k + i)) (fun i => f1 (k + i)) (min (j - k) (j - k)) : Nat) : Int) = (DL : Int)) := by show _ = _; rw [Nat.min_self, hDL]
      have t4 : Hid (((Gf.dotN f0 (fun i => f1 i ^^^ f2 i) (min j j) : Nat) : Int) = (S : Int)) := by show _ = _; rw [Nat.min_self, hS]
      have t5 : Hid (((Gf.dotN f0 f2 (min j j) : Nat) : Int) = (Z : Int)) := by show _ = _; rw [Nat.min_self, hZ]
      have g1 : DK < 256 := by rw [← hDK]; exact Gf.dotN_lt _ _ _
      have g2 : DL < 256 := by rw [← hDL]; exact Gf.dotN_lt _ _ _
      have g3 : Z < 256 := by rw [← hZ]; exact Gf.dotN_lt _ _ _
      have g4 : D < 256 := by rw [← HD.out]; exact Gf.dotN_lt _ _ _
      have x1 : bits .xor .u8 (DK : Int) (DL : Int) = (D : Int) := by rw [xor_u8 DK DL g1 g2, ← hDK, ← hDL, Gf.dotN_parts f0 f1 k j hk, HD.out]
      have x2 : bits .xor .u8 (D : Int) (Z : Int) = (S : Int) := by rw [xor_u8 D Z g4 g3, ← HD.out, ← hZ, ← Gf.dotN_xor f0 f1 f2 b0 b1 b2, hS]
      have s0 := slice_hi a0 j c0 k (by omega)
      have s1 := slice_hi a1 j c1 k (by omega)
      have s2 := slice_lo a0 j c0 k hk
      have s3 := slice_lo a1 j c1 k hk
      have L0 := R0.cut k c0 m0
      have L1 := R1.cut k c1 m1
      have N0 : RowF Y (sl a0 0 c0) f0 k := R0.head k c0 hk m0
      have N1 : RowF Y (sl a1 0 c1) f1 k := R1.head k c1 hk m1
      have B0 : ∀ i, (fun i => f0 (k + i)) i < 256 := fun i => b0 _
      have B1 : ∀ i, (fun i => f1 (k + i)) i < 256 := fun i => b1 _
      have jj : j ≤ 4611686018427387904 := by omega
      clear hDK hDL hS hZ HD
      have ne : Nonempty (Up Y) := ⟨⟨Y, Below.refl _ _⟩⟩
      repeat quiet_step (fail)
      quiet_step (exact dot_up b j j c1 c0 a1 a0 f1 f0 b1 b0 jj jj hT R1 R0 _ t1.out _)
      repeat quiet_step (fail)
      quiet_step (exact dot_up b k k c0 c1 (sl a0 0 c0) (sl a1 0 c1) f0 f1 b0 b1 (by omega) (by omega) hT N0 N1 _ t2.out _)
      repeat quiet_step (fail)
      quiet_step (exact dot_up b (j - k) (j - k) (c0 - k) (c1 - k) (sl a0 k c0) (sl a1 k c1) _ _ B0 B1 (by omega) (by omega) hT L0 L1 _ t3.out _)
      repeat quiet_step (fail)
      quiet_step (exact dot_up b j j c0 j a0 (some ⟨G, 0, none⟩) f0 _ b0 bS jj jj hT R0 rS _ t4.out _)
      repeat quiet_step (fail)
      quiet_step (exact dot_up b j j c0 c2 a0 a2 f0 f2 b0 b2 jj jj hT R0 R2 _ t5.out _)
      repeat quiet_step (fail)
      quiet_step (exact runs_up _)
      repeat quiet_step (fail)
      refine wpQuiet_nil ?_
      rintro w5 ⟨s, rfl⟩
      have fB : Below w.heap.size w s.w := yB.trans (s.h.mono yB.size)
      go_wp2_with fail
      go_ret
      exact ⟨rfl, fB⟩
end Go.Proofs.Ytadabbodjkdkdaa
