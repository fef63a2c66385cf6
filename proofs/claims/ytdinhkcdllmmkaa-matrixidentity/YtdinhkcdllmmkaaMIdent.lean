/-
  MATRIXIDENTITY, walked.
-/
import Derived.Test.YtdinhkcdllmmkaaMInv
namespace Go.Proofs.Ytdinhkcdllmmkaa
open Go.RowKit

namespace Gf
/-- Two rows of the identity changed round are their own inverse. -/
theorem swap_inv {k a b : Nat} (ha : a < k) (hb : b < k) : EqN k (mm k (swapR a b idm) (swapR a b idm)) idm := by
  intro i hi j hj
  rw [swapR_mm]
  have h : ∀ x, x < k → mm k idm (swapR a b idm) x j = swapR a b idm x j := fun x hx => mm_id_left (swapR_B8 idm_B8 a b) hx j
  have e : swapR a b (mm k idm (swapR a b idm)) i j = swapR a b (swapR a b idm) i j := by
    show (if i = a then mm k idm (swapR a b idm) b else if i = b then mm k idm (swapR a b idm) a else mm k idm (swapR a b idm) i) j = (if i = a then swapR a b idm b else if i = b then swapR a b idm a else swapR a b idm i) j
    by_cases e1 : i = a
    · rw [if_pos e1, if_pos e1]; exact h b hb
    · by_cases e2 : i = b
      · rw [if_neg e1, if_pos e2, if_neg e1, if_pos e2]; exact h a ha
      · rw [if_neg e1, if_neg e2, if_neg e1, if_neg e2]; exact h i hi
  rw [e, swapR_swapR]
/-- A row twice: there is a kernel. -/
def dupR (a b : Nat) (A : Nat → Nat → Nat) : Nat → Nat → Nat := fun i j => if i = a then A b j else A i j
theorem dupR_B8 {A : Nat → Nat → Nat} (h : B8 A) (a b : Nat) : B8 (dupR a b A) := by
  intro i j; unfold dupR; split <;> exact h _ _
theorem dup_ker {k a b : Nat} {A : Nat → Nat → Nat} (hA : B8 A) (ha : a < k) (hb : b < k) (hne : a ≠ b) : ¬ Inj k (dupR a b A) := by
  intro h
  obtain ⟨y, hy, ⟨p, hp, hyp⟩, h0⟩ := under (k - 1) k (fun l j => dupR a b A (skip a j) l) (fun l j => dupR_B8 hA a b _ _) (by omega)
  have key : ∀ i, i < k → i ≠ a → mv k (dupR a b A) y i = 0 := fun i hi hia => by
    have hs : skip a (unskip a i) = i := by
      unfold skip unskip
      by_cases h1 : i < a
      · rw [if_pos h1, if_pos h1]
      · rw [if_neg h1, if_neg (by omega)]; omega
    have := h0 (unskip a i) (by unfold unskip; split <;> omega)
    rw [← this]
    refine xs_congr (fun l _ => ?_)
    show mul (dupR a b A i l) (y l) = mul (y l) (dupR a b A (skip a (unskip a i)) l)
    rw [hs, mul_comm]
  refine hyp (h y hy (fun i hi => ?_) p hp)
  by_cases e : i = a
  · rw [← key b hb (fun e' => hne e'.symm)]
    refine xs_congr (fun l _ => ?_)
    unfold dupR
    rw [if_pos e, if_neg (fun e' => hne e'.symm)]
  · exact key i hi e
end Gf

/-- A list of rows, whatever the rows are. -/
def Top (w : World) (g : Nat) (P : Nat → Nat) (k n : Nat) : Prop := ∃ C, w.heap[g]? = some (.cells C 31 (0, 0)) ∧ k ≤ C.size ∧ ∀ i, i < k → C[i]? = some (.slice (some ⟨P i, 0, none⟩) n n)
theorem Top.cell {w : World} {g k n i : Nat} {P : Nat → Nat} (h : Top w g P k n) (hi : i < k) : w.cell? ⟨g, i, none⟩ = some (.slice (some ⟨P i, 0, none⟩) n n) := by
  obtain ⟨C, h1, _, h3⟩ := h
  rw [cell_of_row w g i C 31 (0, 0) h1]; exact h3 i hi
theorem Top.fz {w : World} {g k n : Nat} {P : Nat → Nat} (h : Top w g P k n) (i : Nat) : w.frozen? ⟨g, i, none⟩ = false := by
  obtain ⟨C, h1, _⟩ := h
  simp [World.frozen?, h1]
theorem Top.set {w : World} {g k n r q : Nat} {P : Nat → Nat} (h : Top w g P k n) (hr : r < k) : Top (w.setCell ⟨g, r, none⟩ (.slice (some ⟨q, 0, none⟩) n n)) g (fun i => if i = r then q else P i) k n := by
  obtain ⟨C, h1, h2, h3⟩ := h
  refine ⟨C.setIfInBounds r (.slice (some ⟨q, 0, none⟩) n n), ?_, by simp [h2], fun i hi => ?_⟩
  · rw [setCell_eq_setRow w g r C 31 (0, 0) _ h1]; exact setRow_heap w g C _ 31 (0, 0) h1
  · by_cases e : i = r
    · subst e; simp only [if_true]; rw [Array.getElem?_setIfInBounds_self_of_lt (by omega)]
    · simp only [if_neg e]; rw [Array.getElem?_setIfInBounds_ne (by omega)]; exact h3 i hi
theorem Top.matF {w : World} {g k n : Nat} {P : Nat → Nat} {A : Nat → Nat → Nat} (h : Top w g P k n) (hr : ∀ i, i < k → RowF w (some ⟨P i, 0, none⟩) (A i) n) : MatF w (some ⟨g, 0, none⟩) A k n :=
  Or.inr ⟨g, 0, rfl, fun i hi => ⟨some ⟨P i, 0, none⟩, n, by rw [Nat.zero_add]; exact h.cell hi, Nat.le_refl _, hr i hi⟩⟩
/-- What an append of a whole list of rows to an empty one gives. -/
theorem own_top {w : World} {D k n : Nat} {v : Value} {xs : List Value} {P : Nat → Nat} (h : w.ownsRow D 31 1 v k xs) (hk : 1 ≤ k) (hx : ∀ i, i < k → xs[i]? = some (.slice (some ⟨P i, 0, none⟩) n n)) : ∃ g c, v = .slice (some ⟨g, 0, none⟩) k c ∧ D ≤ g ∧ Top w g P k n := by
  rcases h.2 with ⟨_, h0⟩ | ⟨g, cap, cur, rfl, hD, hh, hcap, _, hcs, ht⟩
  · exfalso; omega
  · refine ⟨g, cap, rfl, hD, cur, hh, by omega, fun i hi => ?_⟩
    rw [← hx i hi, ← ht, List.getElem?_take_of_lt (by omega)]; simp

set_option maxHeartbeats 8000000 in
theorem mident_any (a0 a1 a2 : Int) (w : World) :
    Calls Try.prog 8 #[.int .i64 a0, .int .i64 a1, .int .i64 a2] w fun e w' => e = .returned (.bool true) ∧ Below w.heap.size w w' := by
  have hz := zero25
  go_enter Try.func8, Try.ntmps8
  go_wp2_with fail
  refine (within_lc a0 2 9 2 9 rfl rfl (by decide) (by decide) w).mono ?_
  rintro e w1 ⟨⟨k, hk2, hk9, rfl⟩, hw⟩
  obtain rfl := hw.symm
  clear hw
  go_wp2_with fail
  refine (within_c a1 0 _ (k - 1) rfl (by omega) (by omega) w).mono ?_
  rintro e w1 ⟨⟨a, ha, rfl⟩, hw⟩
  obtain rfl := hw.symm
  clear hw
  go_wp2_with fail
  refine (within_c a2 0 _ (k - 1) rfl (by omega) (by omega) w).mono ?_
  rintro e w1 ⟨⟨b, hb, rfl⟩, hw⟩
  obtain rfl := hw.symm
  clear hw
  have ha : a < k := by omega
  have hb : b < k := by omega
  go_wp2_with fail
  refine (make_is w).mono ?_
  rintro e w1 ⟨T, hT, rfl, hb'⟩
  have ht := hT.size
  have hst := store_tab hT w1
  go_wp2_with fail
  obtain ⟨t, W, eb, eW, hTab, hb1, hs, hB⟩ := tab_world hT hb'
  rw [← eb, ← eW]
  clear hst ht hz eb eW hb' hT hb1 hs
  refine (ident_any k _ rfl (by omega) (by omega) W).mono ?_
  rintro e w2 ⟨g, P, rfl, G2, L2⟩
  have T2 := hTab.up L2
  have B2 : Hid (Below w.heap.size w w2) := hB.trans (L2.mono hB.size)
  have hg : Hid (w.heap.size ≤ g) := Nat.le_trans hB.size G2.gB
  clear L2 hTab hB
  have nn : ((k : Int) != (k : Int)) = false := by simp
  go_wp2_with fail
  refine (invert_any _ t k k Gf.idm Gf.idm_B8 (by omega) (by omega) w2 G2.matF T2).mono ?_
  rintro e w3 ⟨L3, ⟨gV, PV, V, rfl, GV, bV, v1, _, _⟩ | ⟨_, no⟩⟩
  · have hV : Hid (Gf.EqN k V Gf.idm) := Gf.inv_unique bV Gf.idm_B8 Gf.idm_B8 v1 (fun i hi j _ => Gf.mm_id_left Gf.idm_B8 hi j)
    have T3 := T2.up L3
    have B3 : Hid (Below w.heap.size w w3) := B2.out.trans (L3.mono B2.out.size)
    have G3 := G2.up L3
    have hgl := G2.glt
    clear L3 T2 B2 v1
    have i1 : (a : Int) < (k : Int) := by omega
    have i2 : (b : Int) < (k : Int) := by omega
    have d1 := G3.tcell ha
    have d2 := G3.tcell hb
    have f1 := G3.tfz a
    have f2 := G3.tfz b
    obtain ⟨v', hy'⟩ := cell?_setCell_some (w := w3) (p := ⟨g, a, none⟩) (x := .slice (some ⟨P b, 0, none⟩) k k) (q := ⟨g, b, none⟩) (v := .slice (some ⟨P b, 0, none⟩) k k) (by go_simp)
    have GS : Hid (Grid (((w3.setCell ⟨g, a, none⟩ (.slice (some ⟨P b, 0, none⟩) k k)).setCell ⟨g, b, none⟩ (.slice (some ⟨P a, 0, none⟩) k k)).drew) W.heap.size g (swapP a b P) (Gf.swapR a b Gf.idm) k k k) := (G3.swap ha hb (Nat.le_refl _)).alike ⟨rfl, rfl, rfl, rfl⟩
    have TS : Hid (HasTab (((w3.setCell ⟨g, a, none⟩ (.slice (some ⟨P b, 0, none⟩) k k)).setCell ⟨g, b, none⟩ (.slice (some ⟨P a, 0, none⟩) k k)).drew) t) := ((T3.set (T3.neg G3) _).set (T3.neg G3) _).alike ⟨rfl, rfl, rfl, rfl⟩
    have BS : Hid (Below w.heap.size w (((w3.setCell ⟨g, a, none⟩ (.slice (some ⟨P b, 0, none⟩) k k)).setCell ⟨g, b, none⟩ (.slice (some ⟨P a, 0, none⟩) k k)).drew)) := below_alike ((B3.out.setCell hg.out _).setCell hg.out _) ⟨rfl, rfl, rfl, rfl⟩
    have gv : gV ≠ g := by have := GV.gB; omega
    have pv : ∀ i, i < k → PV i ≠ g := fun i hi => by have := (GV.row i hi).1; omega
    have VS : Hid (Grid (((w3.setCell ⟨g, a, none⟩ (.slice (some ⟨P b, 0, none⟩) k k)).setCell ⟨g, b, none⟩ (.slice (some ⟨P a, 0, none⟩) k k)).drew) w2.heap.size gV PV V k k k) := ((GV.other gv.symm (fun i hi => (pv i hi).symm)).other gv.symm (fun i hi => (pv i hi).symm)).alike ⟨rfl, rfl, rfl, rfl⟩
    clear T3 B3 G3 GV G2 hgl gv pv hg
    go_wp2_with fail
    go_region
    all_goals
      obtain ⟨w4, e4⟩ : ∃ w4, w4 = (((w3.setCell ⟨g, a, none⟩ (.slice (some ⟨P b, 0, none⟩) k k)).setCell ⟨g, b, none⟩ (.slice (some ⟨P a, 0, none⟩) k k)).drew) := ⟨_, rfl⟩
      rw [← e4] at GS TS BS VS
      rw [← e4]
      clear e4 hy' d1 d2 f1 f2
      go_wp2_with fail
      have bM : Gf.B8 (Gf.swapR a b Gf.idm) := Gf.swapR_B8 Gf.idm_B8 a b
      have mm1 := Gf.swap_inv ha hb
      obtain ⟨M, eM⟩ : ∃ M, M = Gf.swapR a b Gf.idm := ⟨_, rfl⟩
      rw [← eM] at GS bM mm1
      have HM1 : Hid (Gf.EqN k (Gf.mm k M M) Gf.idm) := mm1
      clear eM mm1
      refine (invert_any _ t k k M bM (by omega) (by omega) w4 GS.out.matF TS.out).mono ?_
      rintro e w5 ⟨L5, ⟨gU, PU, U, rfl, GU, bU, u1, _, _⟩ | ⟨_, no⟩⟩
      · have hU : Hid (Gf.EqN k U M) := Gf.inv_unique bU bM bM u1 HM1.out
        have T5 := TS.out.up L5
        have B5 : Hid (Below w.heap.size w w5) := BS.out.trans (L5.mono BS.out.size)
        have G5 := GS.out.up L5
        have V5 := (VS.out.up L5).matF
        have U5 := GU.matF
        clear L5 TS BS GS VS GU u1
        obtain ⟨C, c1, c2, c3⟩ := G5.top
        have C1 : Hid (∀ i, i < k → C[i]? = some (.slice (some ⟨swapP a b P i, 0, none⟩) k k)) := c3
        have C0 : Hid (w5.heap[g]? = some (.cells C 31 (0, 0))) := c1
        clear c3 c1
        obtain ⟨i0, hi, hz0, hz1, hz2⟩ := info_parts info31
        obtain ⟨D, hD⟩ : ∃ D, w5.heap.size = D := ⟨_, rfl⟩
        have hgD : g < D := by rw [← hD]; exact G5.glt
        have O5 : (w5.alloc (.cells #[] 31)).ownsRow D 31 1 (.slice (some ⟨D, 0, none⟩) 0 0) 0 [] :=
          ⟨rfl, Or.inr ⟨D, 0, #[], rfl, Nat.le_refl _, by rw [← hD]; exact heap_alloc_last _ _, Nat.le_refl _, Nat.zero_le _, rfl, rfl⟩⟩
        go_wp2_with (at_builtin; refine wpList_append_own _ rfl _ _ 27 rfl D 31 i0 (.slice none 0 0) 1 24 under27 hi hz0 hz1 hz2 rfl (by decide) _ _ _ rfl O5 ⟨g, 0, none⟩ k k C.toList rfl ?c0 ?c1 ?c2 ?c3 ?c4 ?c5 ?_)
        case c0 => simp [c2]
        case c1 =>
          intro j u hj
          have hjk : j < k := by
            have := (List.getElem?_eq_some_iff.1 hj).1
            simpa [c2] using this
          have e1 : (⟨g, 0, none⟩ : Addr).add j = ⟨g, j, none⟩ := by unfold Addr.add; split <;> simp_all
          rw [e1, World.cell?_alloc_lt _ _ _ (by rw [hD]; exact hgD), cell_of_row w5 g j C 31 (0, 0) C0.out]
          simpa using hj
        case c2 =>
          intro u hu
          obtain ⟨j, hj, rfl⟩ := List.getElem_of_mem hu
          have hjk : j < k := by simpa [c2] using hj
          have := C1.out j hjk
          have h2 : C.toList[j]? = some (C.toList[j]'hj) := List.getElem?_eq_getElem hj
          rw [Array.getElem?_toList, this] at h2
          injection h2 with h2
          rw [← h2]; rfl
        case c3 => unfold maxLen; omega
        case c4 => omega
        case c5 => simp; omega
        intro v' w6 hown' hgrow _
        obtain ⟨gx, cx, rfl, hDx, Tx⟩ := own_top (P := swapP a b P) hown' (by omega) (fun i hi => by have := C1.out i hi; simpa using this)
        have L6 : Below w5.heap.size w5 w6 := ((Below.refl _ _).alloc (Nat.le_refl _) _).grown hgrow (by simp) (fun q e => by cases e; exact Nat.le_of_eq hD)
        have T6 := T5.up L6
        have B6 : Hid (Below w.heap.size w w6) := B5.out.trans (L6.mono B5.out.size)
        have G6 := G5.up L6
        have V6 := V5.below L6
        have U6 := U5.below L6
        have hgx : Hid (w.heap.size ≤ gx) := by have := B5.out.size; exact (by omega : w.heap.size ≤ gx)
        have ht5 : t < w5.heap.size := (Array.getElem?_eq_some_iff.1 (show w5.heap[t]? = _ from T5)).1
        have hne1 : t ≠ gx := by omega
        clear hown' hgrow T5 B5 C0 C1 c2 hi hz0 hz1 hz2 O5
        by_cases hab : a = b
        · have n1 : ((a : Int) != (b : Int)) = false := by simp; omega
          have n2 : ((a : Int) == (b : Int)) = true := by simp; omega
          have X6 := Tx.matF (fun i hi => G6.rowF hi)
          have M6 := G6.matF
          clear hab G6 Tx
          go_wp2_with fail
          refine (invert_any _ t k cx M bM (by omega) (by omega) w6 X6 T6).mono ?_
          rintro e w7 ⟨L7, ⟨_, _, _, rfl, _, _, _, _, _⟩ | ⟨_, no⟩⟩
          · have B7 : Hid (Below w.heap.size w w7) := B6.out.trans (L7.mono B6.out.size)
            have V7 := V6.below L7
            have U7 := U6.below L7
            have M7 := M6.below L7
            clear L7 B6 V6 U6 M6 X6 T6
            go_wp2_with fail
            refine (ident_any k _ rfl (by omega) (by omega) _).mono ?_
            rintro e w8 ⟨gi, Pi, rfl, Gi, L8⟩
            have B8 : Hid (Below w.heap.size w w8) := B7.out.trans (L8.mono B7.out.size)
            have V8 := V7.below L8
            have U8 := U7.below L8
            have M8 := M7.below L8
            have I8 := Gi.matF
            clear L8 B7 V7 U7 M7 Gi
            go_wp2_with fail
            refine (same2_any _ _ k k k k _ _ (by omega) (by omega) hV.out w8 V8 I8).mono ?_
            rintro e w9 ⟨rfl, d9, rfl⟩
            go_wp2_with fail
            refine (same2_any _ _ k k k k _ _ (by omega) (by omega) hU.out (w8.drewN d9) (U8.dr d9) (M8.dr d9)).mono ?_
            rintro e w10 ⟨rfl, d10, rfl⟩
            go_wp2_with fail
            refine (mruns_any _).mono ?_
            rintro e w11 ⟨rfl, L11⟩
            have B11 : Hid (Below w.heap.size w w11) := (below_drewN B8.out (d9 + d10)).trans (L11.mono B8.out.size)
            clear L11 B8 V8 U8 M8 I8
            go_wp2_with fail
            go_ret
            exact ⟨rfl, B11.out⟩
          · exact absurd (Gf.inj_of_left bM bM HM1.out) no
        · have n1 : ((a : Int) != (b : Int)) = true := by simp; omega
          have n2 : ((a : Int) == (b : Int)) = false := by simp; omega
          have d1 := Tx.cell ha
          have d2 := Tx.cell hb
          have f1 := Tx.fz a
          have x1 : ∀ q, q < w5.heap.size → q ≠ gx := fun q hq => by omega
          have G7 : Hid (Grid (w6.setCell ⟨gx, a, none⟩ (.slice (some ⟨swapP a b P b, 0, none⟩) k k)) W.heap.size g (swapP a b P) M k k k) := G6.other (x1 g G5.glt).symm (fun i hi => (x1 _ (G5.lt hi)).symm)
          have Tx7 : Hid (Top (w6.setCell ⟨gx, a, none⟩ (.slice (some ⟨swapP a b P b, 0, none⟩) k k)) gx (fun i => if i = a then swapP a b P b else swapP a b P i) k k) := Tx.set ha
          have T7 : Hid (HasTab (w6.setCell ⟨gx, a, none⟩ (.slice (some ⟨swapP a b P b, 0, none⟩) k k)) t) := T6.set hne1 _
          have B7 : Hid (Below w.heap.size w (w6.setCell ⟨gx, a, none⟩ (.slice (some ⟨swapP a b P b, 0, none⟩) k k))) := B6.out.setCell hgx.out _
          have V7 : Hid (MatF (w6.setCell ⟨gx, a, none⟩ (.slice (some ⟨swapP a b P b, 0, none⟩) k k)) (some ⟨gV, 0, none⟩) V k k) := V5.below (L6.setCell (by show w5.heap.size ≤ gx; omega) _)
          have U7 : Hid (MatF (w6.setCell ⟨gx, a, none⟩ (.slice (some ⟨swapP a b P b, 0, none⟩) k k)) (some ⟨gU, 0, none⟩) U k k) := U5.below (L6.setCell (by show w5.heap.size ≤ gx; omega) _)
          obtain ⟨Pb, ePb⟩ : ∃ Pb, Pb = swapP a b P b := ⟨_, rfl⟩
          rw [← ePb] at d2 G7 Tx7 T7 B7 V7 U7
          have EPb : Hid (Pb = swapP a b P b) := ePb
          clear ePb
          clear T6 B6 G6 V6 U6 Tx x1 V5 U5 L6 G5
          go_wp2_with fail
          obtain ⟨w7, e7⟩ : ∃ w7, w7 = w6.setCell ⟨gx, a, none⟩ (.slice (some ⟨Pb, 0, none⟩) k k) := ⟨_, rfl⟩
          rw [← e7] at G7 Tx7 T7 B7 V7 U7
          rw [← e7]
          clear e7 d1 d2 f1
          have X7 : MatF w7 (some ⟨gx, 0, none⟩) (Gf.dupR a b M) k k := Tx7.out.matF (fun i hi => by
            by_cases e : i = a
            · have e1 : Gf.dupR a b M i = M b := by funext j; unfold Gf.dupR; rw [if_pos e]
              rw [if_pos e, e1, EPb.out]; exact G7.out.rowF hb
            · have e1 : Gf.dupR a b M i = M i := by funext j; unfold Gf.dupR; rw [if_neg e]
              rw [if_neg e, e1]; exact G7.out.rowF hi)
          have M7 := G7.out.matF
          refine (invert_any _ t k cx (Gf.dupR a b M) (Gf.dupR_B8 bM a b) (by omega) (by omega) w7 X7 T7.out).mono ?_
          rintro e w7' ⟨L7, ⟨_, _, _, _, _, _, _, _, yes⟩ | ⟨rfl, _⟩⟩
          · exact absurd yes (Gf.dup_ker bM ha hb hab)
          · have B7' : Hid (Below w.heap.size w w7') := B7.out.trans (L7.mono B7.out.size)
            have V7' := V7.out.below L7
            have U7' := U7.out.below L7
            have M7' := M7.below L7
            clear L7 B7 V7 U7 M7 X7 T7 G7 Tx7 hab EPb
            go_wp2_with fail
            refine (ident_any k _ rfl (by omega) (by omega) _).mono ?_
            rintro e w8 ⟨gi, Pi, rfl, Gi, L8⟩
            have B8 : Hid (Below w.heap.size w w8) := B7'.out.trans (L8.mono B7'.out.size)
            have V8 := V7'.below L8
            have U8 := U7'.below L8
            have M8 := M7'.below L8
            have I8 := Gi.matF
            clear L8 B7' V7' U7' M7' Gi
            go_wp2_with fail
            refine (same2_any _ _ k k k k _ _ (by omega) (by omega) hV.out w8 V8 I8).mono ?_
            rintro e w9 ⟨rfl, d9, rfl⟩
            go_wp2_with fail
            refine (same2_any _ _ k k k k _ _ (by omega) (by omega) hU.out (w8.drewN d9) (U8.dr d9) (M8.dr d9)).mono ?_
            rintro e w10 ⟨rfl, d10, rfl⟩
            go_wp2_with fail
            refine (mruns_any _).mono ?_
            rintro e w11 ⟨rfl, L11⟩
            have B11 : Hid (Below w.heap.size w w11) := (below_drewN B8.out (d9 + d10)).trans (L11.mono B8.out.size)
            clear L11 B8 V8 U8 M8 I8
            go_wp2_with fail
            go_ret
            exact ⟨rfl, B11.out⟩
      · exact absurd (Gf.inj_of_left bM bM HM1.out) no
  · exact absurd (Gf.inj_idm k) no
end Go.Proofs.Ytdinhkcdllmmkaa
