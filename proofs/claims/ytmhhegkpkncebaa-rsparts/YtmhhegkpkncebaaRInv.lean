/-
  INVERT of the reference: its contract at squares: the inverse, from both sides, or there is a kernel.
-/
import Derived.Test.YtmhhegkpkncebaaGridC
import Derived.Test.YtmhhegkpkncebaaNoR
import Derived.Test.YtmhhegkpkncebaaInvert
import Derived.StillTailTactics
import Derived.Test.YtmhhegkpkncebaaRefId
namespace Go.Proofs.Ytmhhegkpkncebaa
open Go.RowKit

/-- The row that is gathered of two parts. -/
theorem own_two {w : World} {S n k : Nat} {v : Value} {A : Nat → Nat → Nat} (h : w.ownsRow S 5 1 v (n + n) (cellsOf (A k) n ++ cellsOf (Gf.idm k) n)) (hn : 1 ≤ n) (hk : k < n) :
    ∃ q cq R, v = .slice (some ⟨q, 0, none⟩) (n + n) cq ∧ S ≤ q ∧ n + n ≤ cq ∧ w.heap[q]? = some (.cells R 5 (0, 0)) ∧ n + n ≤ R.size ∧ ∀ j, j < n + n → R[j]? = some (.int .u8 ((augA A n n k j : Nat) : Int)) := by
  rcases h.2 with ⟨_, h0⟩ | ⟨q, cap, cur, rfl, hS, hh, hc, _, hcs, ht⟩
  · exfalso; omega
  · refine ⟨q, cap, cur, rfl, hS, hc, hh, by omega, fun j hj => ?_⟩
    have e : cur[j]? = (cellsOf (A k) n ++ cellsOf (Gf.idm k) n)[j]? := by
      rw [← ht, List.getElem?_take_of_lt (by omega)]; simp
    rw [e]
    unfold augA
    by_cases h1 : j < n
    · rw [List.getElem?_append_left (by rw [cellsOf_length]; exact h1), cellsOf_at _ _ _ h1, if_pos h1]
    · rw [List.getElem?_append_right (by rw [cellsOf_length]; omega), cellsOf_length, cellsOf_at _ _ _ (by omega), if_neg h1]
      unfold Gf.idm
      by_cases h2 : k = j - n
      · rw [if_pos h2, if_pos (by omega)]
      · rw [if_neg h2, if_neg (by omega)]

theorem cap_nn (n : Nat) (hn : n ≤ 12) : n + n ≤ maxLen := by unfold maxLen; omega

set_option maxHeartbeats 16000000 in
set_option maxRecDepth 100000 in
theorem rinvert_any (a : Option Addr) (n c0 : Nat) (A : Nat → Nat → Nat) (hA : Gf.B8 A) (hn1 : 1 ≤ n) (hn : n ≤ 12) (w : World) (ra : MatF w a A n n) :
    Calls Try.prog 39 #[.slice a n c0] w fun e w' => Below w.heap.size w w' ∧
      ((∃ g cg V, e = .returned (.tuple #[.slice g n cg, .bool true]) ∧ MatF w' g V n n ∧ Gf.B8 V ∧ Gf.EqN n (Gf.mm n V A) Gf.idm ∧ Gf.EqN n (Gf.mm n A V) Gf.idm ∧ Gf.Inj n A) ∨
        (e = .returned (.tuple #[.slice none 0 0, .bool false]) ∧ ¬ Gf.Inj n A)) := by
  obtain ⟨p, o, rfl, q1⟩ := ra.at' hn1
  have Q1 : Hid (∀ i, i < n → ∃ ra rc, w.cell? ⟨p, o + i, none⟩ = some (.slice ra n rc) ∧ n ≤ rc ∧ RowF w ra (A i) n) := q1
  obtain ⟨x, xc, h1, _, _⟩ := q1 0 (by omega)
  rw [Nat.add_zero] at h1
  clear q1
  have i1 : (0 : Int) < (n : Int) := by omega
  have nn : ((n : Int) != (n : Int)) = false := by simp
  have HA : Hid (Gf.B8 A) := hA
  obtain ⟨D, hD⟩ : ∃ D, w.heap.size = D := ⟨_, rfl⟩
  have HD : Hid (w.heap.size = D) := hD
  clear hD hA
  go_enter Try.func39, Try.ntmps39
  go_wp2_with fail
  refine (rright_yes' (some ⟨p, o, none⟩) n c0 A (fun _ => n) (fun _ _ => by omega) ⟨hn1, hn, fun _ _ => ⟨rfl, hn1, hn⟩⟩ _ ra).mono ?_
  rintro e w1 ⟨rfl, k1, rfl⟩
  have h2 : (w.drewN k1).cell? ⟨p, o, none⟩ = some (.slice x n xc) := h1
  have B0 : Hid (Below D w (w.drewN k1)) := below_drewN (Below.refl _ _) k1
  clear ra h1
  go_wp2_with fail
  clear h2
  go_loopw [5, 6] (fun v x wr => ∃ (k : Nat) (xs : List Value) (P cp : Nat → Nat), k ≤ n ∧ x = .int .i64 (k : Int) ∧ wr.ownsRow D 54 1 v k xs ∧ Hid (RowsC wr D xs P cp (augA A n n) (n + n) k) ∧ Hid (Below D w wr)) (fun _ x _ => n - (intOf x).toNat)
  case atStart => exact ⟨0, [], fun _ => 0, fun _ => 0, by omega, rfl, World.ownsRow_nil _ _ _ _, RowsC.nil _ _ _ _ _ _, B0⟩
  case round =>
    obtain ⟨k, xs, P, cp, hk, rfl, own1, HC, HB⟩ := hrel
    clear B0
    by_cases hlt : k < n
    · have hi1 : (k : Int) < (n : Int) := by omega
      obtain ⟨ra, rc, c1, _, c3⟩ := Q1.out k hlt
      have hBw : Below w.heap.size w wr := by rw [HD.out]; exact HB.out
      obtain ⟨ad, rfl, hsrc⟩ := (c3.below hBw).src (by rw [cellsOf_length]; omega)
      have d1 : wr.cell? ⟨p, o + k, none⟩ = some (.slice (some ad) n rc) := cell_later hBw c1
      obtain ⟨S, hS⟩ : ∃ S, wr.heap.size = S := ⟨_, rfl⟩
      have HS : Hid (wr.heap.size = S) := hS
      have hDS : D ≤ S := by rw [← hS, ← HD.out]; exact HB.out.size
      have O0 : (wr.alloc (.cells #[] 5)).ownsRow S 5 1 (.slice (some ⟨S, 0, none⟩) 0 0) 0 [] :=
        ⟨rfl, Or.inr ⟨S, 0, #[], rfl, Nat.le_refl _, by rw [← hS]; exact heap_alloc_last _ _, Nat.le_refl _, Nat.zero_le _, rfl, rfl⟩⟩
      have L0 : Below wr.heap.size wr (wr.alloc (.cells #[] 5)) := (Below.refl _ _).alloc (Nat.le_refl _) _
      have d1' : (wr.alloc (.cells #[] 5)).cell? ⟨p, o + k, none⟩ = some (.slice (some ad) n rc) := cell_later L0 d1
      have K1 : ∀ j u, (cellsOf (A k) n)[j]? = some u → (wr.alloc (.cells #[] 5)).cell? (ad.add j) = some u := fun j u hj => cell_later L0 (hsrc j u hj)
      obtain ⟨j0, y0, y1, y2, y3⟩ := info_parts info5
      obtain ⟨i0, z0, z1, z2, z3⟩ := info_parts info31
      clear c1 c3 hsrc hBw
      go_wp2_with (at_builtin; refine wpList_append_own _ rfl _ _ 54 rfl S 5 j0 (.int .u8 0) 1 1 under32 y0 y1 y2 y3 rfl (by decide) _ _ _ rfl O0 ad n rc (cellsOf (A k) n) rfl (by rw [cellsOf_length]; omega) K1 (cellsOf_one _ _) (by unfold maxLen; omega) (by omega) (by rw [World.size_alloc]; omega) ?_)
      intro v1 w2 own2 hgrow1 _
      have L2 : Hid (Below wr.heap.size wr w2) := L0.grown hgrow1 L0.size (fun q e => by cases e; exact Nat.le_of_eq HS.out)
      have O2 : w2.ownsRow S 5 1 v1 n (cellsOf (A k) n) := by
        have h := own2
        first | exact h | (rw [Nat.zero_add, List.nil_append] at h; exact h)
      clear own2 hgrow1 O0 L0 K1 d1 d1'
      go_wp2_with fail
      refine (rid_own n (by omega) _).mono ?_
      rintro e w3 ⟨vI, xsI, rfl, oI, rI, L3⟩
      obtain ⟨gI, cI, rfl, _, _, _, hcI⟩ := own_cells oI hn1
      obtain ⟨pI, RI, e1, e2, e3, e4⟩ := rI k hlt
      have d2 : w3.cell? ⟨gI, k, none⟩ = some (.slice (some ⟨pI, 0, none⟩) n n) := hcI k _ e1
      have O3 := own_up O2 L3
      have L4 : Hid (Below wr.heap.size wr w3) := L2.out.trans (L3.mono L2.out.size)
      have K2 : ∀ j u, (cellsOf (Gf.idm k) n)[j]? = some u → w3.cell? ((⟨pI, 0, none⟩ : Addr).add j) = some u := fun j u hj => by
        have hjn : j < n := by
          have := (List.getElem?_eq_some_iff.1 hj).1
          rwa [cellsOf_length] at this
        rw [cellsOf_at _ _ _ hjn] at hj
        rw [show (⟨pI, 0, none⟩ : Addr).add j = ⟨pI, j, none⟩ from by unfold Addr.add; split <;> simp_all, cell_of_row w3 pI j RI 5 (0, 0) e2, e4 j hjn]; exact hj
      have hS3 : S ≤ w3.heap.size := by rw [← HS.out]; exact L4.out.size
      clear oI rI hcI e1 e2 e3 e4 O2 L2 L3
      go_wp2_with (at_builtin; refine wpList_append_own _ rfl _ _ 54 rfl S 5 j0 (.int .u8 0) 1 1 under32 y0 y1 y2 y3 rfl (by decide) _ _ _ rfl O3 ⟨pI, 0, none⟩ n n (cellsOf (Gf.idm k) n) rfl (by rw [cellsOf_length]; omega) K2 (cellsOf_one _ _) (by unfold maxLen; omega) (by omega) hS3 ?_)
      intro v2 w4 own4 hgrow2 _
      have L5 : Hid (Below wr.heap.size wr w4) := L4.out.grown hgrow2 L4.out.size (fun q e => by rw [HS.out]; exact (O3.lt q e).1)
      obtain ⟨q, cq, R, rfl, hSq, hcq, hhq, hRs, hRv⟩ := own_two own4 hn1 hlt
      have HRv : Hid (∀ j, j < n + n → R[j]? = some (.int .u8 ((augA A n n k j : Nat) : Int))) := hRv
      have Hq : Hid (w4.heap[q]? = some (.cells R 5 (0, 0))) := hhq
      have own5 := own_up own1 L5.out
      have HC5 : Hid (RowsC w4 D xs P cp (augA A n n) (n + n) k) := HC.out.up L5.out
      have B5 : Hid (Below D w w4) := HB.out.trans (L5.out.mono (by rw [HS.out]; exact hDS))
      have Hne : Hid (∀ i, i < k → P i ≠ q) := fun i hi => by
        obtain ⟨_, _, R', h4, _⟩ := HC.out.row i hi
        have := (Array.getElem?_eq_some_iff.1 h4).1
        omega
      have hsz4 : D ≤ w4.heap.size := by rw [← HD.out]; exact B5.out.size
      have hDq : D ≤ q := by omega
      clear own4 hgrow2 O3 L4 L5 K2 own1 HC HB hRv hhq d2 hS3 y0 y1 y2 y3
      clear hS HS hDS hSq
      go_wp2_with (at_builtin; refine wpList_append_own _ rfl _ _ 34 rfl D 54 i0 (.slice none 0 0) 1 24 under27 z0 z1 z2 z3 rfl (by decide) _ _ _ rfl (own5.alloc _) ⟨w4.heap.size, 0, none⟩ 1 1 [.slice (some ⟨q, 0, none⟩) (n + n) cq] rfl rfl (new_cell' _ _) (one_slice' _ _ _) (by unfold maxLen; omega) (by omega) (by rw [World.size_alloc]; omega) ?_)
      intro v5 w5 own6 hgrow3 _
      have C6 : Hid (RowsC w5 D (xs ++ [.slice (some ⟨q, 0, none⟩) (n + n) cq]) (fun i => if i = k then q else P i) (fun i => if i = k then cq else cp i) (augA A n n) (n + n) (k + 1)) :=
        HC5.out.push own5 hgrow3 Hq.out hDq hcq hRs HRv.out Hne.out
      have B6 : Hid (Below D w w5) := (B5.out.alloc hsz4 _).grown hgrow3 (by rw [World.size_alloc]; omega) (fun q e => (own5.lt q e).1)
      clear own5 hgrow3 HC5 B5 Hne HRv Hq z0 z1 z2 z3 hsz4
      go_wp2
      go_roundw
      case rel => exact ⟨k + 1, _, _, _, by omega, by go_num, own6, C6, B6⟩
      case measure => simp [intOf]; omega
    · have hkn : k = n := by omega
      subst hkn
      have j1 : decide ((k : Int) < (k : Int)) = false := by simp
      obtain ⟨g, cg, rfl, G0⟩ := HC.out.grid own1 hn1
      obtain ⟨N, hN⟩ : ∃ N, N = k + k := ⟨_, rfl⟩
      rw [← hN] at G0
      have HN : Hid (N = k + k) := hN
      have HG0 : Hid (GridC wr D g P cp (augA A k k) k N) := G0
      have HAug0 : Hid (Gf.Aug k A (augA A k k)) := augA_aug HA.out k
      clear own1 HC G0 hN
      go_wp2_with fail
      go_loopw [7] (fun x w6 => ∃ (c : Nat) (P' cp' : Nat → Nat) (A' : Nat → Nat → Nat), c ≤ k ∧ x = .int .i64 (c : Int) ∧ Hid (GridC w6 D g P' cp' A' k N) ∧ Hid (Gf.Aug k A A') ∧ Hid (Gf.Cols k c A') ∧ Hid (Below D w w6)) (fun x _ => k - (intOf x).toNat)
      case atStart => exact ⟨0, P, cp, _, by omega, rfl, HG0, HAug0, fun i _ j hj => by omega, HB⟩
      case round =>
        obtain ⟨c, P', cp', A', hc, rfl, HG, HAug, HCols, HBc⟩ := hrel
        clear HG0 HAug0 HB
        have hNk := HN.out
        by_cases hck : c < k
        · have hi1 : (c : Int) < (k : Int) := by omega
          clear hNk
          go_wp2_with fail
          go_loopw [8] (fun x w7 => ∃ t : Nat, c ≤ t ∧ t ≤ k ∧ x = .int .i64 (t : Int) ∧ Hid (∀ s, c ≤ s → s < t → A' s c = 0) ∧ Hid (GridC w7 D g P' cp' A' k N) ∧ Hid (Below D w w7)) (fun x _ => k - (intOf x).toNat)
          case atStart => exact ⟨c, by omega, by omega, rfl, fun s h1 h2 => by omega, HG, HBc⟩
          case round =>
            obtain ⟨t, ht1, ht2, rfl, HZ, HG, HBc⟩ := hrel
            by_cases htk : t < k
            · have hi2 : (t : Int) < (k : Int) := by omega
              have hi3 : (c : Int) < (N : Int) := by have := HN.out; omega
              have hcN : c < N := by have := HN.out; omega
              have d1 := HG.out.tcell htk
              have d2 := HG.out.cell htk hcN
              by_cases h0 : A' t c = 0
              · have n1 : (((A' t c : Nat) : Int) == 0) = true := by simp; omega
                have HZ' : Hid (∀ s, c ≤ s → s < t + 1 → A' s c = 0) := fun s h1 h2 => by
                  by_cases e : s = t
                  · rw [e]; exact h0
                  · exact HZ.out s h1 (by omega)
                clear HZ h0
                go_wp2_with fail
                exact ⟨⟨t + 1, by omega, by omega, by go_num, HZ', HG, HBc⟩, by simp [intOf]; omega⟩
              · have n1 : (((A' t c : Nat) : Int) == 0) = false := by simp; omega
                have n2 : ((t : Int) == (k : Int)) = false := by simp; omega
                have H0 : Hid (A' t c ≠ 0) := h0
                clear h0 HZ
                have d3 := HG.out.tcell hck
                have f1 := HG.out.tfz t
                have f2 := HG.out.tfz c
                obtain ⟨v', hy'⟩ := cell?_setCell_some (w := wr) (p := ⟨g, c, none⟩) (x := .slice (some ⟨P' t, 0, none⟩) N (cp' t)) (q := ⟨g, t, none⟩) (v := .slice (some ⟨P' t, 0, none⟩) N (cp' t)) (by go_simp)
                have GS : Hid (GridC (((wr.setCell ⟨g, c, none⟩ (.slice (some ⟨P' t, 0, none⟩) N (cp' t))).setCell ⟨g, t, none⟩ (.slice (some ⟨P' c, 0, none⟩) N (cp' c))).drew) D g (swapP c t P') (swapP c t cp') (Gf.swapR c t A') k N) := (HG.out.swap hck htk).alike ⟨rfl, rfl, rfl, rfl⟩
                have BS : Hid (Below D w (((wr.setCell ⟨g, c, none⟩ (.slice (some ⟨P' t, 0, none⟩) N (cp' t))).setCell ⟨g, t, none⟩ (.slice (some ⟨P' c, 0, none⟩) N (cp' c))).drew)) := below_alike ((HBc.out.setCell HG.out.gB _).setCell HG.out.gB _) ⟨rfl, rfl, rfl, rfl⟩
                clear HG HBc
                go_wp2_with fail
                go_region
                all_goals
                  obtain ⟨w8, e8⟩ : ∃ w8, w8 = (((wr.setCell ⟨g, c, none⟩ (.slice (some ⟨P' t, 0, none⟩) N (cp' t))).setCell ⟨g, t, none⟩ (.slice (some ⟨P' c, 0, none⟩) N (cp' c))).drew) := ⟨_, rfl⟩
                  rw [← e8] at GS BS
                  rw [← e8]
                  clear e8 hy' d1 d2 d3 f1 f2 n1 n2
                  obtain ⟨A1, eA1⟩ : ∃ A1, A1 = Gf.swapR c t A' := ⟨_, rfl⟩
                  rw [← eA1] at GS
                  have EA1 : Hid (A1 = Gf.swapR c t A') := eA1
                  have hA1 : Hid (Gf.B8 A1) := by rw [eA1]; exact Gf.swapR_B8 HAug.out.b c t
                  clear eA1
                  obtain ⟨P1, eP1⟩ : ∃ P1, P1 = swapP c t P' := ⟨_, rfl⟩
                  obtain ⟨cp1, ecp1⟩ : ∃ cp1, cp1 = swapP c t cp' := ⟨_, rfl⟩
                  rw [← eP1, ← ecp1] at GS
                  clear eP1 ecp1
                  have d1 := GS.out.tcell hck
                  have d2 := GS.out.cell hck hcN
                  have hx := hA1.out c c
                  obtain ⟨v, hv⟩ : ∃ v, v = Gf.inv (A1 c c) := ⟨_, rfl⟩
                  have hv1 : v < 256 := by rw [hv]; exact Gf.inv_lt _
                  have EV : Hid (v = Gf.inv (A1 c c)) := hv
                  go_wp2_with fail
                  refine (rinv_any (A1 c c) hx _).mono ?_
                  rintro e w9 ⟨rfl, hw9⟩
                  obtain rfl := hw9.symm
                  rw [← hv]
                  clear hv hw9
                  have G1 : Hid (GridC w8 D g P1 cp1 (scalePart c v 0 A1) k N) := GS.out.congr (fun x _ j _ => by unfold scalePart; rw [if_neg (by omega)])
                  clear GS d1 d2
                  go_wp2_with fail
                  go_loopw [10] (fun x w10 => ∃ q : Nat, q ≤ N ∧ x = .int .i64 (q : Int) ∧ Hid (GridC w10 D g P1 cp1 (scalePart c v q A1) k N) ∧ Hid (Below D w w10)) (fun x _ => N - (intOf x).toNat)
                  case atStart => exact ⟨0, by omega, rfl, G1, BS⟩
                  case round =>
                    obtain ⟨q, hq, rfl, HG, HBc⟩ := hrel
                    clear G1 BS
                    by_cases hqN : q < N
                    · have hi4 : (q : Int) < 2 * (k : Int) := by have := HN.out; omega
                      have hi5 : (q : Int) < (N : Int) := by omega
                      go_wp2_with fail
                      refine wp_region_still_tail 15 (by kernel_rfl) (by kernel_rfl) ?_
                      simp only [List.take_succ_cons, List.take_zero, List.drop_succ_cons, List.drop_zero]
                      obtain ⟨Y, eY, yG, yB⟩ : ∃ Y, Y = ({ wr with drawn := wr.drawn + 1 } : World) ∧ GridC Y D g P1 cp1 (scalePart c v q A1) k N ∧ Below D w Y :=
                        ⟨_, rfl, HG.out.alike ⟨rfl, rfl, rfl, rfl⟩, below_drewN HBc.out 1⟩
                      rw [← eY]
                      have d1 := yG.tcell hck
                      have d2 : Y.cell? ⟨P1 c, q, none⟩ = some (.int .u8 ((A1 c q : Nat) : Int)) := by
                        rw [yG.cell hck hqN]; unfold scalePart; rw [if_neg (by omega)]
                      have fz := yG.fz hck q
                      have hy := hA1.out c q
                      have G3 : Hid (GridC (Y.setCell ⟨P1 c, q, none⟩ (.int .u8 ((Gf.mul (A1 c q) v : Nat) : Int))) D g P1 cp1 (scalePart c v (q + 1) A1) k N) :=
                        (yG.set (v := Gf.mul (A1 c q) v) hck hqN).congr (fun x _ j _ => by
                          unfold upd scalePart
                          by_cases e : x = c ∧ j = q
                          · rw [if_pos e, if_pos (by omega), e.2]
                          · rw [if_neg e]
                            by_cases e2 : x = c ∧ j < q
                            · rw [if_pos e2, if_pos (by omega)]
                            · rw [if_neg e2, if_neg (by omega)])
                      have B3 : Hid (Below D w (Y.setCell ⟨P1 c, q, none⟩ (.int .u8 ((Gf.mul (A1 c q) v : Nat) : Int)))) := yB.setCell (yG.row c hck).1 _
                      clear eY HG HBc yG yB
                      repeat still_step
                      still_call (rmul_any (A1 c q) v hy hv1 _)
                      repeat still_step
                      refine wpStill_nil ?_
                      go_wp2_with fail
                      exact ⟨⟨q + 1, by omega, by go_num, G3, B3⟩, by simp [intOf]; omega⟩
                    · have hqN' : q = N := by omega
                      have hi4 : decide ((q : Int) < 2 * (k : Int)) = false := by have := HN.out; simp; omega
                      obtain ⟨A2, hA2⟩ : ∃ A2, A2 = Gf.scaleR c v A1 := ⟨_, rfl⟩
                      have EA2 : Hid (A2 = Gf.scaleR c v A1) := hA2
                      have HA2 : Hid (Gf.B8 A2) := by rw [hA2]; exact Gf.scaleR_B8 hA1.out c v
                      have G1 : Hid (GridC wr D g P1 cp1 (addUpto c c 0 A2) k N) := HG.out.congr (fun x _ j hj => by
                        unfold addUpto; rw [if_neg (by omega), hA2]; unfold scalePart Gf.scaleR
                        by_cases e : x = c
                        · rw [if_pos ⟨e, by omega⟩, if_pos e]
                        · rw [if_neg (fun h => e h.1), if_neg e])
                      clear HG hA2 hqN'
                      go_wp2_with fail
                      go_loopw [11] (fun x w11 => ∃ s : Nat, s ≤ k ∧ x = .int .i64 (s : Int) ∧ Hid (GridC w11 D g P1 cp1 (addUpto c c s A2) k N) ∧ Hid (Below D w w11)) (fun x _ => k - (intOf x).toNat)
                      case atStart => exact ⟨0, by omega, rfl, G1, HBc⟩
                      case round =>
                        obtain ⟨s, hs, rfl, HG, HBc⟩ := hrel
                        clear G1
                        by_cases hsk : s < k
                        · have hi6 : (s : Int) < (k : Int) := by omega
                          have d0 := HG.out.tcell hsk
                          obtain ⟨X, hX⟩ : ∃ X, X = A2 s c := ⟨_, rfl⟩
                          have d1 : wr.cell? ⟨P1 s, c, none⟩ = some (.int .u8 ((X : Nat) : Int)) := by
                            rw [HG.out.cell hsk hcN, hX]; unfold addUpto; rw [if_neg (by omega)]
                          have EX : Hid (X = A2 s c) := hX
                          have hXl : X < 256 := by rw [hX]; exact HA2.out s c
                          clear hX
                          by_cases hsc : s = c
                          · have n1 : ((s : Int) != (c : Int)) = false := by simp; omega
                            have G3 : Hid (GridC wr D g P1 cp1 (addUpto c c (s + 1) A2) k N) := HG.out.congr (fun x _ j _ => by
                              unfold addUpto
                              by_cases e : x < s ∧ x ≠ c
                              · rw [if_pos e, if_pos (by omega)]
                              · rw [if_neg e, if_neg (by omega)])
                            clear HG hsc EX
                            go_wp2_with fail
                            exact ⟨⟨s + 1, by omega, by go_num, G3, HBc⟩, by simp [intOf]; omega⟩
                          · have n1 : ((s : Int) != (c : Int)) = true := by simp; omega
                            by_cases hX0 : X = 0
                            · have n2 : ((X : Int) != 0) = false := by simp; omega
                              have G3 : Hid (GridC wr D g P1 cp1 (addUpto c c (s + 1) A2) k N) := HG.out.congr (fun x _ j _ => by
                                unfold addUpto
                                by_cases e : x < s ∧ x ≠ c
                                · rw [if_pos e, if_pos (by omega)]
                                · rw [if_neg e]
                                  by_cases e2 : x = s
                                  · rw [if_pos (by omega), e2, ← EX.out, hX0, Gf.zero_mul, Nat.xor_zero]
                                  · rw [if_neg (by omega)])
                              clear HG hX0 EX
                              go_wp2_with fail
                              exact ⟨⟨s + 1, by omega, by go_num, G3, HBc⟩, by simp [intOf]; omega⟩
                            · have n2 : ((X : Int) != 0) = true := by simp; omega
                              obtain ⟨A4, eA4⟩ : ∃ A4, A4 = addUpto c c s A2 := ⟨_, rfl⟩
                              have EA4 : Hid (A4 = addUpto c c s A2) := eA4
                              have HA4 : Hid (Gf.B8 A4) := by rw [eA4]; exact addUpto_B8 HA2.out c c s
                              rw [← eA4] at HG
                              have G3 : Hid (GridC wr D g P1 cp1 (addPart s c X 0 A4) k N) := HG.out.congr (fun x _ j _ => by unfold addPart; rw [if_neg (by omega)])
                              clear HG eA4 hX0
                              go_wp2_with fail
                              clear d0 d1
                              go_loopw [13] (fun x w12 => ∃ q : Nat, q ≤ N ∧ x = .int .i64 (q : Int) ∧ Hid (GridC w12 D g P1 cp1 (addPart s c X q A4) k N) ∧ Hid (Below D w w12)) (fun x _ => N - (intOf x).toNat)
                              case atStart => exact ⟨0, by omega, rfl, G3, HBc⟩
                              case round =>
                                obtain ⟨q, hq, rfl, HG, HBc⟩ := hrel
                                clear G3
                                by_cases hqN : q < N
                                · have hi7 : (q : Int) < 2 * (k : Int) := by have := HN.out; omega
                                  have hi8 : (q : Int) < (N : Int) := by omega
                                  go_wp2_with fail
                                  refine wp_region_still_tail 23 (by kernel_rfl) (by kernel_rfl) ?_
                                  simp only [List.take_succ_cons, List.take_zero, List.drop_succ_cons, List.drop_zero]
                                  obtain ⟨Y, eY, yG, yB⟩ : ∃ Y, Y = ({ wr with drawn := wr.drawn + 1 } : World) ∧ GridC Y D g P1 cp1 (addPart s c X q A4) k N ∧ Below D w Y :=
                                    ⟨_, rfl, HG.out.alike ⟨rfl, rfl, rfl, rfl⟩, below_drewN HBc.out 1⟩
                                  rw [← eY]
                                  have d1 := yG.tcell hck
                                  have d2 := yG.tcell hsk
                                  have d3 : Y.cell? ⟨P1 s, q, none⟩ = some (.int .u8 ((A4 s q : Nat) : Int)) := by
                                    rw [yG.cell hsk hqN]; unfold addPart; rw [if_neg (by omega)]
                                  have d4 : Y.cell? ⟨P1 c, q, none⟩ = some (.int .u8 ((A4 c q : Nat) : Int)) := by
                                    rw [yG.cell hck hqN]; unfold addPart; rw [if_neg (by omega)]
                                  have fz := yG.fz hsk q
                                  have hy := HA4.out c q
                                  have hxor := xor_u8 (A4 s q) (Gf.mul X (A4 c q)) (HA4.out s q) (Gf.mul_lt _ _)
                                  have G3 : Hid (GridC (Y.setCell ⟨P1 s, q, none⟩ (.int .u8 ((A4 s q ^^^ Gf.mul X (A4 c q) : Nat) : Int))) D g P1 cp1 (addPart s c X (q + 1) A4) k N) :=
                                    (yG.set (v := A4 s q ^^^ Gf.mul X (A4 c q)) hsk hqN).congr (fun x _ j _ => by
                                      unfold upd addPart
                                      by_cases e : x = s ∧ j = q
                                      · rw [if_pos e, if_pos (by omega), e.2, Gf.mul_comm]
                                      · rw [if_neg e]
                                        by_cases e2 : x = s ∧ j < q
                                        · rw [if_pos e2, if_pos (by omega)]
                                        · rw [if_neg e2, if_neg (by omega)])
                                  have B3 : Hid (Below D w (Y.setCell ⟨P1 s, q, none⟩ (.int .u8 ((A4 s q ^^^ Gf.mul X (A4 c q) : Nat) : Int)))) := yB.setCell (yG.row s hsk).1 _
                                  clear eY HG HBc yG yB
                                  repeat still_step
                                  still_call (rmul_any X (A4 c q) hXl hy _)
                                  repeat still_step
                                  refine wpStill_nil ?_
                                  go_wp2_with fail
                                  exact ⟨⟨q + 1, by omega, by go_num, G3, B3⟩, by simp [intOf]; omega⟩
                                · have hi7 : decide ((q : Int) < 2 * (k : Int)) = false := by have := HN.out; simp; omega
                                  have G5 : Hid (GridC wr D g P1 cp1 (addUpto c c (s + 1) A2) k N) := HG.out.congr (fun x _ j hj => by
                                    unfold addPart
                                    have e2 : A4 s j = A2 s j := by rw [EA4.out]; unfold addUpto; rw [if_neg (by omega)]
                                    have e3 : A4 c j = A2 c j := by rw [EA4.out]; unfold addUpto; rw [if_neg (by omega)]
                                    by_cases e : x = s
                                    · rw [if_pos ⟨e, by omega⟩, e2, e3, e]; unfold addUpto; rw [if_pos (by omega), Gf.mul_comm, EX.out]
                                    · rw [if_neg (fun h => e h.1), EA4.out]; unfold addUpto
                                      by_cases e5 : x < s ∧ x ≠ c
                                      · rw [if_pos e5, if_pos (by omega)]
                                      · rw [if_neg e5, if_neg (by omega)])
                                  clear HG EA4 HA4 EX
                                  go_wp2_with fail
                                  exact ⟨⟨s + 1, by omega, by go_num, G5, HBc⟩, by simp [intOf]; omega⟩
                        · have hsk' : s = k := by omega
                          have hi6 : decide ((s : Int) < (k : Int)) = false := by simp; omega
                          have G6 : Hid (GridC wr D g P1 cp1 (Gf.piv c t A') k N) := HG.out.congr (fun x hx' j _ => by
                            show addUpto c c s A2 x j = Gf.addAll c (fun i => Gf.scaleR c (Gf.inv (Gf.swapR c t A' c c)) (Gf.swapR c t A') i c) (Gf.scaleR c (Gf.inv (Gf.swapR c t A' c c)) (Gf.swapR c t A')) x j
                            rw [← EA1.out, ← EV.out, ← EA2.out]
                            unfold addUpto Gf.addAll
                            by_cases e : x = c
                            · rw [if_neg (fun h => h.2 e), if_pos e, e]
                            · rw [if_pos ⟨by omega, e⟩, if_neg e])
                          have Aug6 : Hid (Gf.Aug k A (Gf.piv c t A')) := HAug.out.piv HA.out hck htk H0.out
                          have Cols6 : Hid (Gf.Cols k (c + 1) (Gf.piv c t A')) := HCols.out.piv HAug.out.b ht1 htk H0.out
                          clear HG hsk' EA1 EV EA2 HA2
                          go_wp2_with fail
                          exact ⟨⟨c + 1, _, _, _, by omega, by go_num, G6, Aug6, Cols6, HBc⟩, by simp [intOf]; omega⟩
            · have htk' : t = k := by omega
              have hi2 : decide ((t : Int) < (k : Int)) = false := by simp; omega
              have n2 : ((t : Int) == (k : Int)) = true := by simp; omega
              have no : Hid (¬ Gf.Inj k A) := HAug.out.stuck HA.out hck HCols.out (fun i h1 h2 => HZ.out i h1 (by omega))
              have hBw : Hid (Below w.heap.size w wr) := by rw [HD.out]; exact HBc.out
              clear HZ HG HBc htk'
              go_wp2_with fail
              go_ret2
              exact ⟨hBw.out, Or.inr ⟨rfl, no.out⟩⟩
        · have hck' : c = k := by omega
          subst hck'
          have j2 : decide ((c : Int) < (c : Int)) = false := by simp
          obtain ⟨d1, d2, d3⟩ := HAug.out.done HA.out HCols.out
          have D1 : Hid (Gf.EqN c (Gf.mm c (Gf.half c A') A) Gf.idm) := d1
          have D2 : Hid (Gf.EqN c (Gf.mm c A (Gf.half c A')) Gf.idm) := d2
          have D3 : Hid (Gf.Inj c A) := d3
          clear d1 d2 d3 hNk
          go_wp2_with fail
          obtain ⟨W2, eW2⟩ : ∃ W2, W2 = wr := ⟨_, rfl⟩
          have HG2 : Hid (GridC W2 D g P' cp' A' c N) := by rw [eW2]; exact HG
          have HB2 : Hid (Below D w W2) := by rw [eW2]; exact HBc
          have HBs : Hid (Below W2.heap.size W2 wr) := by rw [eW2]; exact Below.refl _ _
          clear eW2 HG HBc
          go_loopw [14, 15] (fun v x w7 => ∃ (i : Nat) (xs : List Value), i ≤ c ∧ x = .int .i64 (i : Int) ∧ w7.ownsRow W2.heap.size 54 1 v i xs ∧ Hid (RowsIn W2 xs (Gf.half c A') (fun _ => c) i) ∧ Hid (Below W2.heap.size W2 w7)) (fun _ x _ => c - (intOf x).toNat)
          case atStart => exact ⟨0, [], by omega, rfl, World.ownsRow_nil _ _ _ _, fun t ht => by omega, HBs⟩
          case round =>
            obtain ⟨i, xs, hi, rfl, own, HX, HB⟩ := hrel
            clear HBs
            by_cases hic : i < c
            · have hi1 : (i : Int) < (c : Int) := by omega
              have d1 := (HG2.out.up HB.out).tcell hic
              obtain ⟨_, hcap, _⟩ := HG2.out.row i hic
              have hsl : ∀ w, (Instr.sliceAt 54 (.slice (some ⟨P' i, 0, none⟩) N (cp' i)) (some (.int .i64 (c : Int))) none none).run Try.prog w = .ok (.slice (sl (some ⟨P' i, 0, none⟩) c (cp' i)) c (cp' i - c)) w := fun w => by
                have := slice_lo (some ⟨P' i, 0, none⟩) N (cp' i) c (by have := HN.out; omega) w
                rwa [show N - c = c by have := HN.out; omega] at this
              have hrow : RowF W2 (sl (some ⟨P' i, 0, none⟩) c (cp' i)) (Gf.half c A' i) c := by
                have := (HG2.out.rowF hic).cut c (cp' i) hcap
                rwa [show N - c = c by have := HN.out; omega] at this
              have R1 : Hid (RowsIn W2 (xs ++ [.slice (sl (some ⟨P' i, 0, none⟩) c (cp' i)) c (cp' i - c)]) (Gf.half c A') (fun _ => c) (i + 1)) :=
                HX.out.push (by have := own.1; omega) (by have := HN.out; omega) hrow
              obtain ⟨i0, z0, z1, z2, z3⟩ := info_parts info31
              have hsz : W2.heap.size ≤ wr.heap.size := HB.out.size
              clear hrow HX
              go_wp2_with (at_builtin; refine wpList_append_own _ rfl _ _ 34 rfl W2.heap.size 54 i0 (.slice none 0 0) 1 24 under27 z0 z1 z2 z3 rfl (by decide) _ _ _ rfl (own.alloc _) ⟨wr.heap.size, 0, none⟩ 1 1 [.slice (sl (some ⟨P' i, 0, none⟩) c (cp' i)) c (cp' i - c)] rfl rfl (new_cell' _ _) (one_slice' _ _ _) (by unfold maxLen; omega) (by omega) (by rw [World.size_alloc]; omega) ?_)
              intro v' w8 own8 hgrow _
              have B8 : Hid (Below W2.heap.size W2 w8) := (HB.out.alloc hsz _).grown hgrow (by rw [World.size_alloc]; omega) (fun q e => (own.lt q e).1)
              clear own HB hgrow z0 z1 z2 z3 hsz hsl d1
              go_wp2
              go_roundw
              case rel => exact ⟨i + 1, _, by omega, by go_num, own8, R1, B8⟩
              case measure => simp [intOf]; omega
            · have hic' : i = c := by omega
              subst hic'
              have j3 : decide ((i : Int) < (i : Int)) = false := by simp
              obtain ⟨ga, ca, rfl, hM⟩ := HX.out.matL own HB.out
              have HM : Hid (MatF wr ga (Gf.half i A') i i) := hM
              have hBw : Hid (Below w.heap.size w wr) := by
                rw [HD.out]
                exact HB2.out.trans (HB.out.mono (by rw [← HD.out]; exact HB2.out.size))
              clear hM own HX HB HB2 HG2
              go_wp2_with fail
              go_ret2
              exact ⟨hBw.out, Or.inl ⟨ga, ca, Gf.half i A', rfl, HM.out, Gf.half_B8 HAug.out.b i, D1.out, D2.out, D3.out⟩⟩
end Go.Proofs.Ytmhhegkpkncebaa
