/-
  MATRIXTELLS, walked.
-/
import Derived.Test.YtdinhkcdllmmkaaPairs
namespace Go.Proofs.Ytdinhkcdllmmkaa
open Go.RowKit

/-- Between the two appends: some world above w4, of which w5 has grown. -/
def Mid (w4 : World) (vf : Value) (w5 : World) : Prop := ∃ X1 : World, Below w4.heap.size w4 X1 ∧ X1.grownBy w5 vf.ownBlock
theorem Mid.below {W w4 w5 : World} {D i : Nat} {vf vo : Value} {xf xo : List Value} {G K : Nat → Nat} {A : Nat → Nat → Nat} (h : Mid w4 vf w5) (hBo : Both w4 D vf vo xf xo G K A i) (hB : Below D W w4) (hDS : D ≤ w4.heap.size) : Below D W w5 := by
  obtain ⟨X, b1, g5⟩ := h
  exact (hB.trans (b1.mono hDS)).grown g5 (Nat.le_trans hDS b1.size) (fun q e => (hBo.full.lt q e).1)
theorem Mid.vo {w4 w5 : World} {D i : Nat} {vf vo : Value} {xf xo : List Value} {G K : Nat → Nat} {A : Nat → Nat → Nat} (h : Mid w4 vf w5) (hBo : Both w4 D vf vo xf xo G K A i) : w5.ownsRow D 31 1 vo i xo := by
  obtain ⟨X, b1, g5⟩ := h
  have h1 := hBo.up b1
  exact own_keep2 h1.own g5 (own_apart h1.own h1.full (fun e => (hBo.nil e).1) (fun hi => ⟨hi, (h1.ne hi).symm⟩))
theorem cap14_le (n : Nat) : cap14 n ≤ 14 := by unfold cap14; split <;> omega

set_option maxHeartbeats 16000000 in
set_option maxRecDepth 100000 in
theorem mtells_any (a0 a1 : Option Addr) (len0 cap0 len1 cap1 : Nat) (A B : Nat → Nat → Nat) (L0 L1 : Nat → Nat) (n m : Int) (hA : Gf.B8 A) (hB : Gf.B8 B) (h0 : ∀ i, i < len0 → L0 i ≤ maxLen) (h1 : ∀ i, i < len1 → L1 i ≤ maxLen) (hl0 : len0 ≤ maxLen) (hl1 : len1 ≤ maxLen) (w : World) (r0 : MatL w a0 A L0 len0) (r1 : MatL w a1 B L1 len1) :
    Calls Try.prog 4 #[.slice a0 len0 cap0, .slice a1 len1 cap1, .int .i64 n, .int .i64 m] w fun e w' => e = .returned (.bool true) ∧ Below w.heap.size w w' := by
  have hz := zero25
  go_enter Try.func4, Try.ntmps4
  go_wp2_with fail
  refine (few_any a0 len0 cap0 A L0 h0 hl0 w r0).mono ?_
  rintro e w1 ⟨b0, c0, rfl, R0, F1⟩
  go_wp2_with fail
  refine (few_any a1 len1 cap1 B L1 h1 hl1 w1 (r1.below F1)).mono ?_
  rintro e w2 ⟨b1, c1, rfl, R1, F2⟩
  have R0' := R0.below F2
  have F3 : Hid (Below w.heap.size w w2) := F1.trans (F2.mono F1.size)
  obtain ⟨K0, eK0⟩ : ∃ K, K = fun i => cap14 (L0 i) := ⟨_, rfl⟩
  obtain ⟨K1, eK1⟩ : ∃ K, K = fun i => cap14 (L1 i) := ⟨_, rfl⟩
  obtain ⟨M0, eM0⟩ : ∃ M, M = cap14 len0 := ⟨_, rfl⟩
  obtain ⟨M1, eM1⟩ : ∃ M, M = cap14 len1 := ⟨_, rfl⟩
  have HK0 : Hid (∀ i, K0 i ≤ 14) := fun i => by rw [eK0]; exact cap14_le _
  have HK1 : Hid (∀ i, K1 i ≤ 14) := fun i => by rw [eK1]; exact cap14_le _
  have hM0 : M0 ≤ 14 := by rw [eM0]; exact cap14_le _
  have hM1 : M1 ≤ 14 := by rw [eM1]; exact cap14_le _
  rw [← eK0, ← eM0] at R0'
  rw [← eK1, ← eM1] at R1
  rw [← eM0, ← eM1]
  clear eK0 eK1 eM0 eM1 R0 F1 F2 h0 h1 hl0 hl1 r0 r1
  go_wp2_with fail
  refine (make_is w2).mono ?_
  rintro e w3 ⟨T, hT, rfl, hb⟩
  have ht := hT.size
  have hst := store_tab hT w3
  go_wp2_with fail
  obtain ⟨t, W, eb, eW, hTab, hb1, hs, hB'⟩ := tab_world hT hb
  rw [← eb, ← eW]
  clear hst ht hz eb eW hb hT hb1 hs
  have RA : Hid (MatL W b0 A K0 M0) := R0'.below hB'
  have RB : Hid (MatL W b1 B K1 M1) := R1.below hB'
  have BW : Hid (Below w.heap.size w W) := F3.out.trans (hB'.mono F3.out.size)
  have HA : Hid (Gf.B8 A) := hA
  have HBB : Hid (Gf.B8 B) := hB
  have HTab : Hid (HasTab W t) := hTab
  obtain ⟨D, hD⟩ : ∃ D, W.heap.size = D := ⟨_, rfl⟩
  have HD : Hid (W.heap.size = D) := hD
  clear R0' R1 hB' F3 hA hB hTab hD
  go_loopw [10, 11, 12] (fun vo vf x wr => ∃ (i : Nat) (xf xo : List Value) (G : Nat → Nat), i ≤ M0 ∧ x = .int .i64 (i : Int) ∧ Hid (Both wr D vf vo xf xo G K0 A i) ∧ Hid (Below D W wr)) (fun _ _ x _ => M0 - (intOf x).toNat)
  case atStart => exact ⟨0, [], [], fun _ => 0, by omega, rfl, Both.start _ _ _ _ _, Below.refl _ _⟩
  case round =>
    obtain ⟨i, xf, xo, G, hi, rfl, HBo, HB⟩ := hrel
    by_cases hlt : i < M0
    · have hi1 : (i : Int) < (M0 : Int) := by omega
      obtain ⟨pa, oa, rfl, qa⟩ : ∃ p off, b0 = some ⟨p, off, none⟩ ∧ ∀ i, i < M0 → ∃ ra rc, W.cell? ⟨p, off + i, none⟩ = some (.slice ra (K0 i) rc) ∧ K0 i ≤ rc ∧ RowF W ra (A i) (K0 i) := by
        rcases RA.out with r | r
        · exfalso; omega
        · exact r
      obtain ⟨ra, rc, c1, c2, c3⟩ := qa i hlt
      clear qa
      have hBW : Below W.heap.size W wr := by rw [HD.out]; exact HB.out
      have hl14 := HK0.out i
      have d1 : wr.cell? ⟨pa, oa + i, none⟩ = some (.slice ra (K0 i) rc) := cell_later hBW c1
      have rr := c3.below hBW
      have C1 : Hid (W.cell? ⟨pa, oa + i, none⟩ = some (.slice ra (K0 i) rc)) := c1
      clear c1 c3 c2 hBW
      go_wp2_with fail
      refine (roomy_b ra (K0 i) rc 9 9 (A i) rfl (by omega) _ rr).mono ?_
      rintro e w4 ⟨rfl, Rq, L4⟩
      obtain ⟨q, eq⟩ : ∃ q, q = wr.heap.size := ⟨_, rfl⟩
      rw [← eq] at Rq
      rw [← eq]
      have HBo4 : Hid (Both w4 D u11 u10 xf xo G K0 A i) := HBo.out.up L4
      have HRq : Hid (RowB w4 q (roomF (A i) (K0 i) 9) (K0 i + 80)) := Rq
      have d2 : w4.cell? ⟨pa, oa + i, none⟩ = some (.slice ra (K0 i) rc) := cell_later L4 d1
      have B4 : Hid (Below D W w4) := HB.out.trans (L4.mono (by rw [← HD.out]; exact HB.out.size))
      clear eq L4 HBo HB d1 rr Rq
      obtain ⟨i0, z0, z1, z2, z3⟩ := info_parts info31
      obtain ⟨S, hS⟩ : ∃ S, w4.heap.size = S := ⟨_, rfl⟩
      have HS : Hid (w4.heap.size = S) := hS
      have hDS : D ≤ S := by rw [← hS, ← HD.out]; exact B4.out.size
      obtain ⟨rF, erF⟩ : ∃ v, v = Value.slice (some ⟨q, 0, none⟩) (K0 i + 80) (K0 i + 80) := ⟨_, rfl⟩
      obtain ⟨rO, erO⟩ : ∃ v, v = Value.slice (some ⟨q, 0, none⟩) (K0 i) (K0 i + 80) := ⟨_, rfl⟩
      have a1 : ∀ o : Obj, (w4.alloc o).heap[S]? = some o := fun o => by rw [← hS]; exact heap_alloc_last w4 o
      have a2 : ∀ o o' : Obj, ((w4.alloc o).alloc o').heap[S + 1]? = some o' := fun o o' => by
        have := heap_alloc_last (w4.alloc o) o'
        rwa [World.size_alloc, hS] at this
      have a3 : ∀ o o' : Obj, ((w4.alloc o).alloc o').heap[S]? = some o := fun o o' => by
        rw [Below.heap_alloc _ _ _ (by rw [World.size_alloc, hS]; omega)]; exact a1 o
      have bl1 : ∀ o : Obj, Below w4.heap.size w4 (w4.alloc o) := fun o => (Below.refl _ _).alloc (Nat.le_refl _) _
      have bl2 : ∀ o o' : Obj, Below w4.heap.size w4 ((w4.alloc o).alloc o') := fun o o' => ((Below.refl _ _).alloc (Nat.le_refl _) _).alloc (by simp) _
      have QO1 : Hid (∀ X, Alike (w4.alloc (.cells #[rF] 31)) X → X.ownsRow D 31 1 u11 i xf) := fun X hX => (HBo4.out.up (below_alike (bl1 _) hX)).full
      have QN1 : Hid (∀ X, Alike (w4.alloc (.cells #[rF] 31)) X → ∀ j u, [rF][j]? = some u → X.cell? ((⟨S, 0, none⟩ : Addr).add j) = some u) := fun X hX => newcell_of (by rw [hX.heap]; exact a1 _)
      have QS1 : Hid (∀ X, Alike (w4.alloc (.cells #[rF] 31)) X → D ≤ X.heap.size) := fun X hX => by rw [hX.heap, World.size_alloc, hS]; omega
      have QO2 : Hid (∀ X, Alike ((w4.alloc (.cells #[rO] 31)).alloc (.cells #[rF] 31)) X → X.ownsRow D 31 1 u11 i xf) := fun X hX => (HBo4.out.up (below_alike (bl2 _ _) hX)).full
      have QN2 : Hid (∀ X, Alike ((w4.alloc (.cells #[rO] 31)).alloc (.cells #[rF] 31)) X → ∀ j u, [rF][j]? = some u → X.cell? ((⟨S + 1, 0, none⟩ : Addr).add j) = some u) := fun X hX => newcell_of (by rw [hX.heap]; exact a2 _ _)
      have QS2 : Hid (∀ X, Alike ((w4.alloc (.cells #[rO] 31)).alloc (.cells #[rF] 31)) X → D ≤ X.heap.size) := fun X hX => by rw [hX.heap, World.size_alloc, World.size_alloc, hS]; omega
      have QO3 : Hid (∀ X, Alike ((w4.alloc (.cells #[rF] 31)).alloc (.cells #[rO] 31)) X → X.ownsRow D 31 1 u11 i xf) := fun X hX => (HBo4.out.up (below_alike (bl2 _ _) hX)).full
      have QN3 : Hid (∀ X, Alike ((w4.alloc (.cells #[rF] 31)).alloc (.cells #[rO] 31)) X → ∀ j u, [rF][j]? = some u → X.cell? ((⟨S, 0, none⟩ : Addr).add j) = some u) := fun X hX => newcell_of (by rw [hX.heap]; exact a3 _ _)
      have QS3 : Hid (∀ X, Alike ((w4.alloc (.cells #[rF] 31)).alloc (.cells #[rO] 31)) X → D ≤ X.heap.size) := fun X hX => by rw [hX.heap, World.size_alloc, World.size_alloc, hS]; omega
      have mk1 : Hid (∀ X w5 : World, X.grownBy w5 u11.ownBlock → Alike (w4.alloc (.cells #[rF] 31)) X → Mid w4 u11 w5) := fun X w5 hg hX => ⟨X, below_alike (bl1 _) hX, hg⟩
      have mk2 : Hid (∀ X w5 : World, X.grownBy w5 u11.ownBlock → Alike ((w4.alloc (.cells #[rO] 31)).alloc (.cells #[rF] 31)) X → Mid w4 u11 w5) := fun X w5 hg hX => ⟨X, below_alike (bl2 _ _) hX, hg⟩
      have mk3 : Hid (∀ X w5 : World, X.grownBy w5 u11.ownBlock → Alike ((w4.alloc (.cells #[rF] 31)).alloc (.cells #[rO] 31)) X → Mid w4 u11 w5) := fun X w5 hg hX => ⟨X, below_alike (bl2 _ _) hX, hg⟩
      have own_lt : ∀ k, u11.ownBlock = some k → k < S := fun k e => by rw [← hS]; exact (HBo4.out.full.lt k e).2
      have mk2k : Hid (∀ X w5 : World, X.grownBy w5 u11.ownBlock → Alike ((w4.alloc (.cells #[rO] 31)).alloc (.cells #[rF] 31)) X → w5.heap[S]? = some (.cells #[rO] 31 (0, 0))) := fun X w5 hg hX => by
        rw [hg.block S (by rw [hX.heap, World.size_alloc, World.size_alloc, hS]; omega) (fun e => by have := own_lt S e.symm; omega), hX.heap]; exact a3 _ _
      have mk3k : Hid (∀ X w5 : World, X.grownBy w5 u11.ownBlock → Alike ((w4.alloc (.cells #[rF] 31)).alloc (.cells #[rO] 31)) X → w5.heap[S + 1]? = some (.cells #[rO] 31 (0, 0))) := fun X w5 hg hX => by
        rw [hg.block (S + 1) (by rw [hX.heap, World.size_alloc, World.size_alloc, hS]; omega) (fun e => by have := own_lt (S + 1) e.symm; omega), hX.heap]; exact a2 _ _
      have fD : Hid (∀ w5, Mid w4 u11 w5 → w5.cell? ⟨pa, oa + i, none⟩ = some (.slice ra (K0 i) rc)) := fun w5 h5 => cell_later (by have := h5.below HBo4.out B4.out (by rw [hS]; exact hDS); rw [← HD.out] at this; exact this) C1.out
      have fV : Hid (∀ w5, Mid w4 u11 w5 → w5.ownsRow D 31 1 u10 i xo) := fun w5 h5 => h5.vo HBo4.out
      have fS : Hid (∀ w5, Mid w4 u11 w5 → D ≤ w5.heap.size) := fun w5 h5 => by
        have := (h5.below HBo4.out B4.out (by rw [hS]; exact hDS)).size
        rwa [HD.out] at this
      have fB : Hid (∀ w5 X2 w6 : World, Mid w4 u11 w5 → Below w5.heap.size w5 X2 → X2.grownBy w6 u10.ownBlock → Below D W w6) := fun w5 X2 w6 h5 b2 g6 => by
        have q5 := h5.below HBo4.out B4.out (by rw [hS]; exact hDS)
        have qD : D ≤ w5.heap.size := by have := q5.size; rwa [HD.out] at this
        exact (q5.trans (b2.mono qD)).grown g6 (Nat.le_trans qD b2.size) (fun q e => ((h5.vo HBo4.out).lt q e).1)
      have fF : Hid (∀ (w5 X2 w6 : World) (v5 v6 : Value), Mid w4 u11 w5 → w5.ownsRow D 31 1 v5 (i + 1) (xf ++ [rF]) → Below w5.heap.size w5 X2 → w6.ownsRow D 31 1 v6 (i + 1) (xo ++ [rO]) → X2.grownBy w6 u10.ownBlock →
          Both w6 D v5 v6 (xf ++ [rF]) (xo ++ [rO]) (fun t => if t = i then q else G t) K0 A (i + 1)) := fun w5 X2 w6 v5 v6 h5 o5 b2 o6 g6 => by
        obtain ⟨X1, hb1, hg1⟩ := h5
        rw [erF] at o5 ⊢
        rw [erO] at o6 ⊢
        exact HBo4.out.step HRq.out hb1 o5 hg1 b2 o6 g6
      have on1 : ∀ u ∈ [rF], u.oneCell' = true := by rw [erF]; exact one_slice' _ _ _
      have on2 : ∀ u ∈ [rO], u.oneCell' = true := by rw [erO]; exact one_slice' _ _ _
      have ON1 : Hid (∀ u ∈ [rF], u.oneCell' = true) := on1
      have ON2 : Hid (∀ u ∈ [rO], u.oneCell' = true) := on2
      have d3 : ∀ o, (w4.alloc o).cell? ⟨pa, oa + i, none⟩ = some (.slice ra (K0 i) rc) := fun o => cell_later (bl1 o) d2
      have hs1 : ∀ w, (Instr.sliceAt 31 rF none (some (.int .i64 ((K0 i : Nat) : Int))) none).run Try.prog w = .ok rO w := fun w => by
        have := slice_hi (some ⟨q, 0, none⟩) (K0 i + 80) (K0 i + 80) (K0 i) (by omega) w
        rw [erF, erO]
        rwa [show sl (some ⟨q, 0, none⟩) 0 (K0 i + 80) = some ⟨q, 0, none⟩ from by unfold sl; rw [if_neg (by omega)]; rfl] at this
      have hM14 : i + 1 ≤ 14 := by omega
      have hb24 : (i + 1) * 24 ≤ 140737488355328 := by omega
      have h63 : i + 1 ≤ maxLen := by unfold maxLen; omega
      subst erF erO
      clear on1 on2 a1 a2 a3 bl1 bl2 own_lt
      go_wp2_with fail
      go_region_law (first
        | (refine step_append_mine rfl _ _ 27 rfl D 31 i0 (.slice none 0 0) 1 24 under27 z0 z1 z2 z3 rfl (by decide) u11 i xf rfl (QO1.out _ ⟨rfl, rfl, rfl, rfl⟩) ⟨S, 0, none⟩ 1 1 [.slice (some ⟨q, 0, none⟩) (K0 i + 80) (K0 i + 80)] rfl rfl (QN1.out _ ⟨rfl, rfl, rfl, rfl⟩) ON1.out h63 hb24 (QS1.out _ ⟨rfl, rfl, rfl, rfl⟩) ?_; intro v5 w5 own5 hgrow5; have E5 : Hid (Mid w4 u11 w5) := mk1.out _ _ hgrow5 ⟨rfl, rfl, rfl, rfl⟩; have d5 := fD.out w5 E5.out)
        | (refine step_append_mine rfl _ _ 27 rfl D 31 i0 (.slice none 0 0) 1 24 under27 z0 z1 z2 z3 rfl (by decide) u11 i xf rfl (QO2.out _ ⟨rfl, rfl, rfl, rfl⟩) ⟨S + 1, 0, none⟩ 1 1 [.slice (some ⟨q, 0, none⟩) (K0 i + 80) (K0 i + 80)] rfl rfl (QN2.out _ ⟨rfl, rfl, rfl, rfl⟩) ON1.out h63 hb24 (QS2.out _ ⟨rfl, rfl, rfl, rfl⟩) ?_; intro v5 w5 own5 hgrow5; have E5 : Hid (Mid w4 u11 w5) := mk2.out _ _ hgrow5 ⟨rfl, rfl, rfl, rfl⟩; have K5 : Hid (w5.heap[S]? = some (.cells #[.slice (some ⟨q, 0, none⟩) (K0 i) (K0 i + 80)] 31 (0, 0))) := mk2k.out _ _ hgrow5 ⟨rfl, rfl, rfl, rfl⟩)
        | (refine step_append_mine rfl _ _ 27 rfl D 31 i0 (.slice none 0 0) 1 24 under27 z0 z1 z2 z3 rfl (by decide) u11 i xf rfl (QO3.out _ ⟨rfl, rfl, rfl, rfl⟩) ⟨S, 0, none⟩ 1 1 [.slice (some ⟨q, 0, none⟩) (K0 i + 80) (K0 i + 80)] rfl rfl (QN3.out _ ⟨rfl, rfl, rfl, rfl⟩) ON1.out h63 hb24 (QS3.out _ ⟨rfl, rfl, rfl, rfl⟩) ?_; intro v5 w5 own5 hgrow5; have E5 : Hid (Mid w4 u11 w5) := mk3.out _ _ hgrow5 ⟨rfl, rfl, rfl, rfl⟩; have K5 : Hid (w5.heap[S + 1]? = some (.cells #[.slice (some ⟨q, 0, none⟩) (K0 i) (K0 i + 80)] 31 (0, 0))) := mk3k.out _ _ hgrow5 ⟨rfl, rfl, rfl, rfl⟩)
        | (refine step_append_mine rfl _ _ 27 rfl D 31 i0 (.slice none 0 0) 1 24 under27 z0 z1 z2 z3 rfl (by decide) u10 i xo rfl ((fV.out w5 E5.out).alloc _) ⟨w5.heap.size, 0, none⟩ 1 1 [.slice (some ⟨q, 0, none⟩) (K0 i) (K0 i + 80)] rfl rfl (newcell_of (heap_alloc_last _ _)) ON2.out h63 hb24 (by rw [World.size_alloc]; have := fS.out w5 E5.out; omega) ?_; intro v6 w6 own6 hgrow6; have FB : Hid (Below D W w6) := fB.out w5 _ w6 E5.out ((Below.refl _ _).alloc (Nat.le_refl _) _) hgrow6; have FF := fF.out w5 _ w6 _ _ E5.out own5 ((Below.refl _ _).alloc (Nat.le_refl _) _) own6 hgrow6)
        | (refine step_append_mine rfl _ _ 27 rfl D 31 i0 (.slice none 0 0) 1 24 under27 z0 z1 z2 z3 rfl (by decide) u10 i xo rfl (fV.out w5 E5.out) ⟨S, 0, none⟩ 1 1 [.slice (some ⟨q, 0, none⟩) (K0 i) (K0 i + 80)] rfl rfl (newcell_of K5.out) ON2.out h63 hb24 (fS.out w5 E5.out) ?_; intro v6 w6 own6 hgrow6; have FB : Hid (Below D W w6) := fB.out w5 _ w6 E5.out (Below.refl _ _) hgrow6; have FF := fF.out w5 _ w6 _ _ E5.out own5 (Below.refl _ _) own6 hgrow6)
        | (refine step_append_mine rfl _ _ 27 rfl D 31 i0 (.slice none 0 0) 1 24 under27 z0 z1 z2 z3 rfl (by decide) u10 i xo rfl (fV.out w5 E5.out) ⟨S + 1, 0, none⟩ 1 1 [.slice (some ⟨q, 0, none⟩) (K0 i) (K0 i + 80)] rfl rfl (newcell_of K5.out) ON2.out h63 hb24 (fS.out w5 E5.out) ?_; intro v6 w6 own6 hgrow6; have FB : Hid (Below D W w6) := fB.out w5 _ w6 E5.out (Below.refl _ _) hgrow6; have FF := fF.out w5 _ w6 _ _ E5.out own5 (Below.refl _ _) own6 hgrow6))
      all_goals
        have HFF : Hid (Both w6 D v5 v6 (xf ++ [.slice (some ⟨q, 0, none⟩) (K0 i + 80) (K0 i + 80)]) (xo ++ [.slice (some ⟨q, 0, none⟩) (K0 i) (K0 i + 80)]) (fun t => if t = i then q else G t) K0 A (i + 1)) := FF
        clear FF own5 own6 hgrow5 hgrow6 E5 fD fV fS fB fF QO1 QN1 QS1 QO2 QN2 QS2 QO3 QN3 QS3 mk1 mk2 mk3 mk2k mk3k hs1 z0 z1 z2 z3
        go_wp2_with fail
        exact ⟨⟨i + 1, _, _, _, by omega, by go_num, HFF, FB⟩, by simp [intOf]; omega⟩
    · have hiM : i = M0 := by omega
      subst hiM
      have j1 : decide ((i : Int) < (i : Int)) = false := by simp
      obtain ⟨ao, co, rfl, MO⟩ := HBo.out.matL
      have hBW : Below W.heap.size W wr := by rw [HD.out]; exact HB.out
      have RA4 := RA.out.below hBW
      have RB4 := RB.out.below hBW
      have T4 := HTab.out.up hBW
      have B4 : Hid (Below w.heap.size w wr) := BW.out.trans (hBW.mono BW.out.size)
      have Bo4 : Hid (Both wr D u11 (.slice ao i co) xf xo G K0 A i) := HBo.out
      obtain ⟨p, mx, nx, X, hmx, hnx, t1, t2⟩ := times_both A B HA.out HBB.out K0 K1 i M1 HK0.out HK1.out hM0 hM1
      obtain ⟨p2, my, hmy, t3, t4⟩ := invert_both A HA.out K0 i HK0.out hM0
      obtain ⟨mi, hmi, t5, t6⟩ := ident_both n
      obtain ⟨mc, nc, Xc, hmc, hnc, t7, t8⟩ := cau_both n m
      obtain ⟨bb, t9, t10⟩ := right_both A K0 i HK0.out hM0
      have H1 := (show Hid _ from t1)
      have H2 := (show Hid _ from t2)
      have H3 := (show Hid _ from t3)
      have H4 := (show Hid _ from t4)
      have H5 := (show Hid _ from t5)
      have H6 := (show Hid _ from t6)
      have H7 := (show Hid _ from t7)
      have H8 := (show Hid _ from t8)
      have H9 := (show Hid _ from t9)
      have H10 := (show Hid _ from t10)
      clear t1 t2 t3 t4 t5 t6 t7 t8 t9 t10 HBo HB hBW RA RB HTab BW
      go_wp2_with fail
      refine (H1.out t ao co b1 c1 wr MO RB4 T4).mono ?_
      rintro e w5 ⟨ax, cx, rfl, MX5, L5⟩
      have RA5 := RA4.below L5
      have RB5 := RB4.below L5
      have MO5 := MO.below L5
      have T5 := T4.up L5
      have B5 : Hid (Below w.heap.size w w5) := B4.out.trans (L5.mono B4.out.size)
      have Bo5 : Hid (Both w5 D u11 (.slice ao i co) xf xo G K0 A i) := Bo4.out.up L5
      clear RA4 RB4 MO T4 B4 Bo4 L5
      go_wp2_with fail
      refine (H2.out b0 c0 b1 c1 w5 RA5 RB5).mono ?_
      rintro e w6 ⟨ay, cy, rfl, MY6, L6⟩
      have RA6 := RA5.below L6
      have MO6 := MO5.below L6
      have T6 := T5.up L6
      have B6 : Hid (Below w.heap.size w w6) := B5.out.trans (L6.mono B5.out.size)
      have Bo6 : Hid (Both w6 D u11 (.slice ao i co) xf xo G K0 A i) := Bo5.out.up L6
      have MX6 := MX5.below L6
      clear RA5 RB5 MO5 T5 B5 Bo5 L6 MX5
      go_wp2_with fail
      refine (H3.out t ao co w6 MO6 T6).mono ?_
      rintro e w7 ⟨au, cu, U, rfl, MU7, hU, L7⟩
      have RA7 := RA6.below L7
      have MO7 := MO6.below L7
      have T7 := T6.up L7
      have B7 : Hid (Below w.heap.size w w7) := B6.out.trans (L7.mono B6.out.size)
      have Bo7 : Hid (Both w7 D u11 (.slice ao i co) xf xo G K0 A i) := Bo6.out.up L7
      have MX7 := MX6.below L7
      have MY7 := MY6.below L7
      clear RA6 MO6 T6 B6 Bo6 L7 MX6 MY6
      go_wp2_with fail
      refine (H4.out b0 c0 w7 RA7).mono ?_
      rintro e w8 ⟨av, cv, V, rfl, MV8, hV, L8⟩
      have RA8 := RA7.below L8
      have MO8 := MO7.below L8
      have T8 := T7.up L8
      have B8 : Hid (Below w.heap.size w w8) := B7.out.trans (L8.mono B7.out.size)
      have Bo8 : Hid (Both w8 D u11 (.slice ao i co) xf xo G K0 A i) := Bo7.out.up L8
      have MX8 := MX7.below L8
      have MY8 := MY7.below L8
      have MU8 := MU7.below L8
      have hUV : Hid (∀ i, i < my → ∀ j, j < my → U i j = V i j) := by
        rcases hU with h | ⟨bU, uv1, uv2⟩
        · exact fun i hi => by omega
        · rcases hV with h | ⟨bV, vv1, vv2⟩
          · exact fun i hi => by omega
          · exact Gf.inv_unique bU HA.out bV uv1 vv2
      have HRA8 : Hid (MatL w8 b0 A K0 i) := RA8
      have HMO8 : Hid (MatL w8 ao A K0 i) := MO8
      have HMX8 : Hid (MatF w8 ax X mx nx) := MX8
      have HMY8 : Hid (MatF w8 ay X mx nx) := MY8
      have HMU8 : Hid (MatF w8 au U my my) := MU8
      have HMV8 : Hid (MatF w8 av V my my) := MV8
      clear RA7 MO7 T7 B7 Bo7 L8 MX7 MY7 MU7 hU hV RA8 MO8 MX8 MY8 MU8 MV8 H1 H2 H3 H4
      go_wp2_with fail
      go_loopw [22] (fun x wr => ∃ s k : Nat, s ≤ i ∧ x = .int .i64 (s : Int) ∧ Hid (wr = w8.drewN k)) (fun x _ => i - (intOf x).toNat)
      case atStart => exact ⟨0, 0, by omega, rfl, rfl⟩
      case round =>
        obtain ⟨s, k, hs, rfl, HW⟩ := hrel
        by_cases hsi : s < i
        · have hi2 : (s : Int) < (i : Int) := by omega
          obtain ⟨pa, oa, rfl, qa⟩ : ∃ p off, b0 = some ⟨p, off, none⟩ ∧ ∀ j, j < i → ∃ ra rc, w8.cell? ⟨p, off + j, none⟩ = some (.slice ra (K0 j) rc) ∧ K0 j ≤ rc ∧ RowF w8 ra (A j) (K0 j) := by
            rcases HRA8.out with r | r
            · exfalso; omega
            · exact r
          obtain ⟨ra, rc, q1, q2, q3⟩ := qa s hsi
          obtain ⟨gf, cf, rfl, _, _, _, hcf⟩ := own_cells Bo8.out.full (by omega)
          have q4 := hcf s _ (Bo8.out.af s hsi)
          have q5 := (Bo8.out.row s hsi).rowF
          have e1 : wr.cell? ⟨pa, oa + s, none⟩ = some (.slice ra (K0 s) rc) := by rw [HW.out]; exact q1
          have e2 : wr.cell? ⟨gf, s, none⟩ = some (.slice (some ⟨G s, 0, none⟩) (K0 s + 80) (K0 s + 80)) := by rw [HW.out]; exact q4
          have e3 : RowF wr (some ⟨G s, 0, none⟩) (roomF (A s) (K0 s) 9) (K0 s + 80) := by rw [HW.out]; exact q5
          have e4 : RowF wr ra (A s) (K0 s) := by rw [HW.out]; exact q3
          have hK := HK0.out s
          clear qa q1 q2 q3 hcf q4 q5
          go_wp2_with fail
          go_quiet ((go_at_call 20; exact Calls.quiet_of (intact_any (G s) ra (K0 s) rc 9 9 (A s) rfl (by omega) _ (e3.drewN _) (e4.drewN _))))
          go_wp2_with fail
          exact ⟨⟨s + 1, k + nq, by omega, by go_num, by show _ = _; rw [HW.out, World.drewN_drewN]⟩, by simp [intOf]; omega⟩
        · have hsi' : s = i := by omega
          have i5 : decide ((s : Int) < (i : Int)) = false := by simp; omega
          have MO9 : MatL wr ao A K0 i := by rw [HW.out]; exact HMO8.out.drewN k
          have RA9 : MatL wr b0 A K0 i := by rw [HW.out]; exact HRA8.out.drewN k
          have MX9 : MatF wr ax X mx nx := by rw [HW.out]; exact HMX8.out
          have MY9 : MatF wr ay X mx nx := by rw [HW.out]; exact HMY8.out
          have MU9 : MatF wr au U my my := by rw [HW.out]; exact HMU8.out
          have MV9 : MatF wr av V my my := by rw [HW.out]; exact HMV8.out
          have T9 : HasTab wr t := by rw [HW.out]; exact T8.drewN k
          have B9 : Hid (Below w.heap.size w wr) := by rw [HW.out]; exact below_drewN B8.out k
          clear HW HMO8 HRA8 HMX8 HMY8 HMU8 HMV8 T8 B8 Bo8 hsi'
          have k1 : (bb == bb) = true := by simp
          have k2 : (p == p) = true := by simp
          have k3 : (p2 == p2) = true := by simp
          go_wp2_with fail
          refine (H9.out ao co wr MO9).mono ?_
          rintro e w10 ⟨rfl, d10, rfl⟩
          go_wp2_with fail
          refine (H10.out b0 c0 _ (RA9.drewN d10)).mono ?_
          rintro e w11 ⟨rfl, d11, rfl⟩
          go_wp2_with fail
          refine (same2_any ax ay mx nx cx cy X X (by omega) (by omega) (fun _ _ _ _ => rfl) _ (MX9.drewN _) (MY9.drewN _)).mono ?_
          rintro e w12 ⟨rfl, d12, rfl⟩
          go_wp2_with fail
          refine (same2_any au av my my cu cv U V (by omega) (by omega) hUV.out _ (MU9.drewN _) (MV9.drewN _)).mono ?_
          rintro e w13 ⟨rfl, d13, rfl⟩
          go_wp2_with fail
          refine (H5.out _).mono ?_
          rintro e w14 ⟨ai, ci, rfl, MI, L14⟩
          have T14 := (T9.drewN _).up L14
          have B14 : Hid (Below w.heap.size w w14) := (below_drewN B9.out _).trans (L14.mono B9.out.size)
          clear T9 B9 L14 MX9 MY9 MU9 MV9 MO9 RA9
          go_wp2_with fail
          refine (H6.out _).mono ?_
          rintro e w15 ⟨aj, cj, rfl, MJ, L15⟩
          have T15 := T14.up L15
          have MI15 := MI.below L15
          have B15 : Hid (Below w.heap.size w w15) := B14.out.trans (L15.mono B14.out.size)
          clear T14 B14 L15 MI
          go_wp2_with fail
          refine (same2_any ai aj mi mi ci cj Gf.idm Gf.idm (by omega) (by omega) (fun _ _ _ _ => rfl) w15 MI15 MJ).mono ?_
          rintro e w16 ⟨rfl, d16, rfl⟩
          go_wp2_with fail
          refine (H7.out t _ (T15.drewN _)).mono ?_
          rintro e w17 ⟨ak, ck, rfl, MK, L17⟩
          have B17 : Hid (Below w.heap.size w w17) := (below_drewN B15.out _).trans (L17.mono B15.out.size)
          clear T15 B15 L17 MI15 MJ
          go_wp2_with fail
          refine (H8.out _).mono ?_
          rintro e w18 ⟨al, cl, rfl, ML, L18⟩
          have MK18 := MK.below L18
          have B18 : Hid (Below w.heap.size w w18) := B17.out.trans (L18.mono B17.out.size)
          clear B17 L18 MK
          go_wp2_with fail
          refine (same2_any ak al mc nc ck cl Xc Xc (by omega) (by omega) (fun _ _ _ _ => rfl) w18 MK18 ML).mono ?_
          rintro e w19 ⟨rfl, d19, rfl⟩
          go_wp2_with fail
          refine (mruns_any _).mono ?_
          rintro e w20 ⟨rfl, L20⟩
          have B20 : Hid (Below w.heap.size w w20) := (below_drewN B18.out _).trans (L20.mono B18.out.size)
          clear B18 L20 MK18 ML
          go_wp2_with fail
          go_ret
          exact ⟨rfl, B20.out⟩
end Go.Proofs.Ytdinhkcdllmmkaa
