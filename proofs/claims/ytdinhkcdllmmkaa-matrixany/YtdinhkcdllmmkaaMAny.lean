/-
  MATRIXANY, walked.
-/
import Derived.Test.YtdinhkcdllmmkaaPick
namespace Go.Proofs.Ytdinhkcdllmmkaa
open Go.RowKit

theorem addr_add (g o j : Nat) : (⟨g, o, none⟩ : Addr).add j = ⟨g, o + j, none⟩ := by unfold Addr.add; split <;> simp_all
/-- A list of numbers cut in front: where it begins, what it holds. -/
theorem cut_cells {w : World} {g c p : Nat} {l : List Nat} (hlc : l.length ≤ c) (hc : ∀ j u, (ints l)[j]? = some u → w.cell? ⟨g, j, none⟩ = some u) :
    ∃ ad, sl (some ⟨g, 0, none⟩) p c = some ad ∧ ∀ j u, (ints (l.drop p))[j]? = some u → w.cell? (ad.add j) = some u := by
  unfold sl
  by_cases e : c = p
  · refine ⟨⟨g, 0, none⟩, by rw [if_pos e], fun j u hj => ?_⟩
    exfalso
    have := (List.getElem?_eq_some_iff.1 hj).1
    rw [ints_length, List.length_drop] at this
    omega
  · refine ⟨⟨g, 0 + p * 1, none⟩, by rw [if_neg e]; show some ((⟨g, 0, none⟩ : Addr).add (p * 1)) = _; rw [addr_add], fun j u hj => ?_⟩
    rw [addr_add, show 0 + p * 1 + j = p + j by omega]
    apply hc
    rw [← hj]; simp [ints, List.getElem?_drop]
theorem head_cells {w : World} {g c p : Nat} {l : List Nat} (hc : ∀ j u, (ints l)[j]? = some u → w.cell? ⟨g, j, none⟩ = some u) :
    ∃ ad, sl (some ⟨g, 0, none⟩) 0 c = some ad ∧ ∀ j u, (ints (l.take p))[j]? = some u → w.cell? (ad.add j) = some u := by
  have key : ∀ j u, (ints (l.take p))[j]? = some u → w.cell? ⟨g, j, none⟩ = some u := fun j u hj => by
    apply hc
    obtain ⟨x, h1, h2⟩ := ints_inv hj
    rw [h2]
    apply ints_at
    have hjp : j < p := by
      have := (List.getElem?_eq_some_iff.1 h1).1
      rw [List.length_take] at this; omega
    rw [List.getElem?_take_of_lt hjp] at h1
    exact h1
  unfold sl
  by_cases e : c = 0
  · exact ⟨⟨g, 0, none⟩, by rw [if_pos e], fun j u hj => by rw [addr_add, Nat.zero_add]; exact key j u hj⟩
  · refine ⟨⟨g, 0 + 0 * 1, none⟩, by rw [if_neg e]; show some ((⟨g, 0, none⟩ : Addr).add (0 * 1)) = _; rw [addr_add], fun j u hj => ?_⟩
    rw [addr_add, show 0 + 0 * 1 + j = j by omega]; exact key j u hj

theorem one_slice (ra : Option Addr) (a rc : Nat) : ∀ u ∈ [Value.slice ra a rc], u.oneCell' = true := by
  intro u hu; simp at hu; subst hu; rfl
theorem own_mono {w : World} {B B' e s k : Nat} {v : Value} {xs : List Value} (h : w.ownsRow B e s v k xs) (hB : B' ≤ B) : w.ownsRow B' e s v k xs := by
  obtain ⟨h1, h2⟩ := h
  refine ⟨h1, ?_⟩
  rcases h2 with h2 | ⟨g, cap, cur, hv, hg, r⟩
  · exact Or.inl h2
  · exact Or.inr ⟨g, cap, cur, hv, Nat.le_trans hB hg, r⟩
theorem new_cell (w : World) (v : Value) : ∀ j u, [v][j]? = some u → (w.alloc (.cells #[v] 31)).cell? ((⟨w.heap.size, 0, none⟩ : Addr).add j) = some u := by
  intro j u hj
  match j, hj with
  | 0, hj => simp at hj; subst hj; simp [Addr.add]

set_option maxHeartbeats 8000000 in
theorem many_any (a0 a1 : Int) (a2 : Option Addr) (len2 cap2 : Nat) (z2 : List Int) (w : World) (w2 : IsRow .i64 w a2 len2 cap2 z2) :
    Calls Try.prog 6 #[.int .i64 a0, .int .i64 a1, .slice a2 len2 cap2] w fun e w' => e = .returned (.bool true) ∧ Below w.heap.size w w' := by
  have hz := zero25
  have hpk : Hid (∀ i, i < len2 → ∃ x z, a2 = some x ∧ len2 ≤ maxLen ∧ w.cell? (x.add i) = some (.int .i64 z)) := fun i hi => by
    rcases w2 with ⟨_, rfl, _⟩ | ⟨x, h1, h2, h3, h4, h5, _⟩
    · exfalso; omega
    · exact ⟨x, _, h1, by omega, h5 i (by omega)⟩
  clear w2
  go_enter Try.func6, Try.ntmps6
  go_wp2_with fail
  refine (within_lc a0 1 8 1 8 rfl rfl (by decide) (by decide) w).mono ?_
  rintro e w1 ⟨⟨a, ha1, ha8, rfl⟩, hw⟩
  obtain rfl := hw.symm
  clear hw
  go_wp2_with fail
  refine (within_c a1 0 _ (12 - a) rfl (by omega) (by omega) w).mono ?_
  rintro e w1 ⟨⟨b, hb, rfl⟩, hw⟩
  obtain rfl := hw.symm
  clear hw
  go_wp2_with fail
  refine (make_is w).mono ?_
  rintro e w1 ⟨T, hT, rfl, hb'⟩
  have ht := hT.size
  have hst := store_tab hT w1
  go_wp2_with fail
  obtain ⟨t, W, eb, eW, hTab, hb1, hs, hB⟩ := tab_world hT hb'
  rw [← eb, ← eW]
  clear hst ht hz eb eW hb' hT hb1 hs
  refine (cau_any t a b _ _ rfl rfl ha1 ha8 (by omega) W hTab).mono ?_
  rintro e Wc ⟨gc, cc, rfl, Mc, hcc, Lc⟩
  have Tc := hTab.up Lc
  have Bc : Hid (Below w.heap.size w Wc) := hB.trans (Lc.mono hB.size)
  clear Lc hTab hB
  obtain ⟨n, hn⟩ : ∃ n, n = a + b := ⟨_, rfl⟩
  rw [← hn] at Mc hcc
  have en : (a : Int) + (b : Int) = (n : Int) := by omega
  have HMc : Hid (MatF Wc (some ⟨gc, 0, none⟩) (Gf.cau a) n a) := Mc
  obtain ⟨D, hD⟩ : ∃ D, Wc.heap.size = D := ⟨_, rfl⟩
  have HD : Hid (Wc.heap.size = D) := hD
  have n0 : ((n : Int) != (n : Int)) = false := by simp
  have hn12 : n ≤ 12 := by omega
  have han : a ≤ n := by omega
  rw [← hn]
  clear Mc hD hn hb
  go_wp2_with fail
  go_loopw [11, 12] (fun v x wr => ∃ i : Nat, i ≤ n ∧ x = .int .i64 (i : Int) ∧ wr.ownsRow D 3 1 v i (ints (List.range i)) ∧ Hid (Below D Wc wr)) (fun _ x _ => n - (intOf x).toNat)
  case atStart => exact ⟨0, by omega, rfl, World.ownsRow_nil _ _ _ _, Below.refl _ _⟩
  case round =>
    obtain ⟨i, hi, rfl, own1, HB1⟩ := hrel
    by_cases hlt : i < n
    · have hi1 : (i : Int) < (n : Int) := by omega
      obtain ⟨i0, q0, q1, q2, q3⟩ := info_parts info3
      have hsz : D ≤ wr.heap.size := by rw [← HD.out]; exact HB1.out.size
      go_wp2_with (at_builtin; refine wpList_append_own _ rfl _ _ 49 rfl D 3 i0 (.int .i64 0) 1 8 under49 q0 q1 q2 q3 rfl (by decide) _ _ _ rfl (own1.alloc _) ⟨wr.heap.size, 0, none⟩ 1 1 [.int .i64 (i : Int)] rfl rfl ?c1 ?c2 ?c3 ?c4 ?c5 ?_)
      case c1 =>
        intro j u hj
        match j, hj with
        | 0, hj => simp at hj; subst hj; simp [Addr.add]
      case c2 => intro u hu; simp at hu; subst hu; rfl
      case c3 => unfold maxLen; omega
      case c4 => omega
      case c5 => simp; omega
      intro v' w1 hown' hgrow _
      have O2 : w1.ownsRow D 3 1 v' (i + 1) (ints (List.range (i + 1))) := by
        have e : ints (List.range (i + 1)) = ints (List.range i) ++ [.int .i64 (i : Int)] := by simp [ints, List.range_succ]
        rw [e]; exact hown'
      have Bl : Hid (Below D Wc w1) := (HB1.out.alloc hsz _).grown hgrow (by rw [World.size_alloc]; omega) (fun q e => (own1.lt q e).1)
      clear own1 HB1 hown' hgrow q0 q1 q2 q3 hsz
      go_wp2
      go_roundw
      case rel => exact ⟨i + 1, by omega, by go_num, O2, Bl⟩
      case measure => simp [intOf]; omega
    · have hin : i = n := by omega
      have j1 : decide ((i : Int) < (n : Int)) = false := by simp; omega
      have O1 : wr.ownsRow D 3 1 u11 (n - 0) (ints (List.range n)) := by rw [← hin]; exact own1
      have P0 : Hid (Picks Wc n a 0 (fun _ => 0) (List.range n) []) := Picks.start Wc n a _
      clear own1 hin
      go_wp2_with fail
      go_loopw [11, 13, 14] (fun u v x wr => ∃ (i : Nat) (r : Nat → Nat) (l : List Nat) (ys : List Value), i ≤ a ∧ x = .int .i64 (i : Int) ∧ wr.ownsRow D 3 1 u (n - i) (ints l) ∧ wr.ownsRow D 31 1 v i ys ∧ Hid (Picks Wc n a i r l ys) ∧ Hid (Below D Wc wr)) (fun _ _ x _ => a - (intOf x).toNat)
      case atStart => exact ⟨0, fun _ => 0, List.range n, [], by omega, rfl, O1, World.ownsRow_nil _ _ _ _, P0, HB1⟩
      case round =>
        obtain ⟨i, r, l, ys, hi, rfl, own1, own2, HP, HB⟩ := hrel
        clear O1 P0 HB1
        by_cases hia : i < a
        · have hi1 : (i : Int) < (a : Int) := by omega
          have hll : l.length = n - i := HP.out.len
          obtain ⟨gl, cl, rfl, hDg, hlc, hgl, hcl⟩ := own_cells own1 (by omega)
          have Hcl : Hid (∀ j u, (ints l)[j]? = some u → wr.cell? ⟨gl, j, none⟩ = some u) := hcl
          clear hcl
          have hLb : Below D Wc wr := HB.out
          by_cases hpi : i < len2
          · obtain ⟨x, z, rfl, hml, hcell⟩ := hpk.out i hpi
            have cz : wr.cell? (x.add i) = some (.int .i64 z) := cell_later (Bc.out.trans ((by rw [← HD.out] at hLb; exact hLb : Below Wc.heap.size Wc wr).mono Bc.out.size)) hcell
            have hi2 : (i : Int) < (len2 : Int) := by omega
            clear hcell hLb
            unfold maxLen at hml
            go_wp2_with fail
            refine (within_c z 0 _ (n - i - 1) rfl (by omega) (by omega) _).mono ?_
            rintro e w3 ⟨⟨p, hp, rfl⟩, hw⟩
            obtain rfl := hw.symm
            clear hw cz hml hi2
            obtain ⟨x, hx⟩ : ∃ x, l[p]? = some x := ⟨l[p]'(by omega), List.getElem?_eq_getElem _⟩
            have hxn : x < n := (HP.out.mem x (List.mem_of_getElem? hx)).1
            have cl1 : wr.cell? ⟨gl, p, none⟩ = some (.int .i64 (x : Int)) := Hcl.out p _ (ints_at hx)
            obtain ⟨pc, oc, epc, qc⟩ := HMc.out.at' (by omega)
            obtain ⟨ra, rc, c1, c2, c3⟩ := qc x hxn
            injection epc with epc; injection epc with e1 e2 _
            subst e1 e2
            rw [Nat.zero_add] at c1
            have hBW : Below Wc.heap.size Wc wr := by rw [HD.out]; exact HB.out
            have cl2 : wr.cell? ⟨gc, x, none⟩ = some (.slice ra a rc) := cell_later hBW c1
            have hpl : (p : Int) < ((n - i : Nat) : Int) := by omega
            have hxn' : (x : Int) < (n : Int) := by omega
            have P1 : Hid (Picks Wc n a (i + 1) (fun t => if t = i then x else r t) (l.take p ++ l.drop (p + 1)) (ys ++ [.slice ra a rc])) := HP.out.step (by have := own2.1; omega) (by omega) hx c2 c3
            obtain ⟨i0, q0, q1, q2, q3⟩ := info_parts info31
            have hsz : D ≤ wr.heap.size := by rw [← HD.out]; exact HB.out.size
            have O3 := own1
            clear hx qc c1 c2 c3 hBW HP own1
            go_wp2_with (at_builtin; refine wpList_append_own _ rfl _ _ 27 rfl D 31 i0 (.slice none 0 0) 1 24 under27 q0 q1 q2 q3 rfl (by decide) _ _ _ rfl (own2.alloc _) ⟨wr.heap.size, 0, none⟩ 1 1 [.slice ra a rc] rfl rfl (new_cell _ _) (one_slice _ _ _) (by unfold maxLen; omega) (by omega) (by rw [World.size_alloc]; omega) ?_)
            intro v' w4 own4 hgrow _
            have own5 := own_keep O3 own2 (by decide) hgrow
            have B4 : Hid (Below D Wc w4) := (HB.out.alloc hsz _).grown hgrow (by rw [World.size_alloc]; omega) (fun q e => (own2.lt q e).1)
            clear O3 own2 HB hgrow q0 q1 q2 q3 hsz cl1 cl2 Hcl hgl
            obtain ⟨gl', cl', ev, _, hlc', hgl', hcl'⟩ := own_cells own5 (by omega)
            injection ev with ev1 _ ev2; injection ev1 with ev1; injection ev1 with ev1 _ _
            subst ev1 ev2
            obtain ⟨j0, q0, q1, q2, q3⟩ := info_parts info3
            obtain ⟨S, hS⟩ : ∃ S, w4.heap.size = S := ⟨_, rfl⟩
            have hDS : D ≤ S := by rw [← hS, ← HD.out]; exact B4.out.size
            obtain ⟨ad1, ea1, hc1⟩ := head_cells (c := cl) (p := p) hcl'
            obtain ⟨ad2, ea2, hc2⟩ := cut_cells (c := cl) (p := p + 1) (by omega) hcl'
            have hs1 : ∀ w, (Instr.sliceAt 49 (.slice (some ⟨gl, 0, none⟩) (n - i) cl) none (some (.int .i64 (p : Int))) none).run Try.prog w = .ok (.slice (some ad1) p cl) w := fun w => by
              have := islice_hi (some ⟨gl, 0, none⟩) (n - i) cl p (by omega) w
              rwa [ea1] at this
            have hs2 : ∀ w, (Instr.sliceAt 49 (.slice (some ⟨gl, 0, none⟩) (n - i) cl) (some (.int .i64 ((p : Int) + 1))) none none).run Try.prog w = .ok (.slice (some ad2) (n - i - (p + 1)) (cl - (p + 1))) w := fun w => by
              have := islice_lo (some ⟨gl, 0, none⟩) (n - i) cl (p + 1) (by omega) w
              rwa [ea2] at this
            have hwr : IntKind.i64.wrap ((p : Int) + 1) = ((p : Int) + 1) := by unfold IntKind.wrap; simp [IntKind.bits, IntKind.signed] <;> omega
            have htn : ((p : Int) + 1).toNat = p + 1 := by omega
            have hb2 : ((p : Int) + 1) ≤ ((n - i : Nat) : Int) := by omega
            have hb3 : (0 : Int) ≤ ((p : Int) + 1) := by omega
            have ea3 : (if cl = p + 1 then (some ⟨gl, 0, none⟩ : Option Addr) else some ⟨gl, p + 1, none⟩) = some ad2 := by
              rw [← ea2]; unfold sl
              by_cases e : cl = p + 1
              · rw [if_pos e, if_pos e]
              · rw [if_neg e, if_neg e]; show _ = some ((⟨gl, 0, none⟩ : Addr).add ((p + 1) * 1)); rw [addr_add]; all_goals (congr 2; omega)
            have O6 : Hid (∀ X, Alike (w4.alloc (.cells #[] 3)) X → X.ownsRow S 3 1 (.slice (some ⟨S, 0, none⟩) 0 0) 0 []) := fun X hX =>
              ⟨rfl, Or.inr ⟨S, 0, #[], rfl, Nat.le_refl _, by rw [hX.heap, ← hS]; exact heap_alloc_last _ _, Nat.le_refl _, Nat.zero_le _, rfl, rfl⟩⟩
            have L6 : Hid (∀ X, Alike (w4.alloc (.cells #[] 3)) X → Below w4.heap.size w4 X) := fun X hX => below_alike ((Below.refl _ _).alloc (Nat.le_refl _) _) hX
            have L6g : Hid (∀ X w5 : World, X.grownBy w5 (some S) → Alike (w4.alloc (.cells #[] 3)) X → Below w4.heap.size w4 w5) := fun X w5 hg hX =>
              (below_alike ((Below.refl _ _).alloc (Nat.le_refl _) _) hX).grown hg (by rw [hX.heap]; simp) (fun q e => by cases e; exact Nat.le_of_eq hS)
            have K1 : Hid (∀ X, Below w4.heap.size w4 X → ∀ j u, (ints (l.take p))[j]? = some u → X.cell? (ad1.add j) = some u) := fun X hX j u hj => cell_later hX (hc1 j u hj)
            have K2 : Hid (∀ X, Below w4.heap.size w4 X → ∀ j u, (ints (l.drop (p + 1)))[j]? = some u → X.cell? (ad2.add j) = some u) := fun X hX j u hj => cell_later hX (hc2 j u hj)
            have N1 : Hid ((ints (l.take p)).length = p * 1) := by show _ = _; rw [ints_length, List.length_take]; omega
            have N2 : Hid ((ints (l.drop (p + 1))).length = (n - i - (p + 1)) * 1) := by show _ = _; rw [ints_length, List.length_drop]; omega
            have HS : Hid (w4.heap.size = S) := hS
            clear hcl' hgl' hlc' hc1 hc2 ea1 ea2 own5
            go_wp2_with fail
            go_region_law (first
              | (refine step_append_mine rfl _ _ 49 rfl S 3 j0 (.int .i64 0) 1 8 under49 q0 q1 q2 q3 rfl (by decide) (.slice (some ⟨S, 0, none⟩) 0 0) 0 [] rfl (O6.out _ ⟨rfl, rfl, rfl, rfl⟩) ad1 p cl (ints (l.take p)) rfl N1.out (K1.out _ (L6.out _ ⟨rfl, rfl, rfl, rfl⟩)) (ints_one _) (by unfold maxLen; omega) (by omega) (by have := (L6.out _ ⟨rfl, rfl, rfl, rfl⟩ : Below w4.heap.size w4 _).size; rw [HS.out] at this; exact this) ?_; intro v5 w5 own6 hgrow1; have L5 : Hid (Below w4.heap.size w4 w5) := L6g.out _ _ hgrow1 ⟨rfl, rfl, rfl, rfl⟩)
              | (refine step_append_mine rfl _ _ 49 rfl S 3 j0 (.int .i64 0) 1 8 under49 q0 q1 q2 q3 rfl (by decide) v5 _ _ rfl own6 ad2 (n - i - (p + 1)) (cl - (p + 1)) (ints (l.drop (p + 1))) rfl N2.out (K2.out _ L5.out) (ints_one _) (by unfold maxLen; omega) (by omega) (by have := L5.out.size; rw [HS.out] at this; exact this) ?_; intro v6 w6 own7 hgrow2; have L7 : Hid (Below w4.heap.size w4 w6) := L5.out.grown hgrow2 L5.out.size (fun q e => by rw [HS.out]; exact (own6.lt q e).1)))
            have O7 : w6.ownsRow D 3 1 v6 (n - (i + 1)) (ints (l.take p ++ l.drop (p + 1))) := by
              have h := own_mono own7 hDS
              rwa [show 0 + p + (n - i - (p + 1)) = n - (i + 1) by omega, List.nil_append, ints_append] at h
            have O8 := own_up own4 L7.out
            have B6 : Hid (Below D Wc w6) := B4.out.trans (L7.out.mono (by rw [HS.out]; exact hDS))
            clear own6 own7 own4 hgrow1 hgrow2 L5 L7 B4 K1 K2 N1 N2 L6 L6g O6 hs1 hs2 hwr htn hb2 hb3 ea3 q0 q1 q2 q3 HS hS
            go_wp2_with fail
            exact ⟨⟨i + 1, _, _, _, by omega, by go_num, O7, O8, P1, B6⟩, by simp [intOf]; omega⟩
          · have hi2 : decide ((i : Int) < (len2 : Int)) = false := by simp; omega
            clear hLb
            obtain ⟨x, hx⟩ : ∃ x, l[0]? = some x := ⟨l[0]'(by omega), List.getElem?_eq_getElem _⟩
            have hxn : x < n := (HP.out.mem x (List.mem_of_getElem? hx)).1
            have cl1 : wr.cell? ⟨gl, 0, none⟩ = some (.int .i64 (x : Int)) := Hcl.out 0 _ (ints_at hx)
            obtain ⟨pc, oc, epc, qc⟩ := HMc.out.at' (by omega)
            obtain ⟨ra, rc, c1, c2, c3⟩ := qc x hxn
            injection epc with epc; injection epc with e1 e2 _
            subst e1 e2
            rw [Nat.zero_add] at c1
            have hBW : Below Wc.heap.size Wc wr := by rw [HD.out]; exact HB.out
            have cl2 : wr.cell? ⟨gc, x, none⟩ = some (.slice ra a rc) := cell_later hBW c1
            have hpl : (0 : Int) < ((n - i : Nat) : Int) := by omega
            have hxn' : (x : Int) < (n : Int) := by omega
            have P1 : Hid (Picks Wc n a (i + 1) (fun t => if t = i then x else r t) (l.take 0 ++ l.drop (1)) (ys ++ [.slice ra a rc])) := HP.out.step (by have := own2.1; omega) (by omega) hx c2 c3
            obtain ⟨i0, q0, q1, q2, q3⟩ := info_parts info31
            have hsz : D ≤ wr.heap.size := by rw [← HD.out]; exact HB.out.size
            have O3 := own1
            clear hx qc c1 c2 c3 hBW HP own1
            go_wp2_with (at_builtin; refine wpList_append_own _ rfl _ _ 27 rfl D 31 i0 (.slice none 0 0) 1 24 under27 q0 q1 q2 q3 rfl (by decide) _ _ _ rfl (own2.alloc _) ⟨wr.heap.size, 0, none⟩ 1 1 [.slice ra a rc] rfl rfl (new_cell _ _) (one_slice _ _ _) (by unfold maxLen; omega) (by omega) (by rw [World.size_alloc]; omega) ?_)
            intro v' w4 own4 hgrow _
            have own5 := own_keep O3 own2 (by decide) hgrow
            have B4 : Hid (Below D Wc w4) := (HB.out.alloc hsz _).grown hgrow (by rw [World.size_alloc]; omega) (fun q e => (own2.lt q e).1)
            clear O3 own2 HB hgrow q0 q1 q2 q3 hsz cl1 cl2 Hcl hgl
            obtain ⟨gl', cl', ev, _, hlc', hgl', hcl'⟩ := own_cells own5 (by omega)
            injection ev with ev1 _ ev2; injection ev1 with ev1; injection ev1 with ev1 _ _
            subst ev1 ev2
            obtain ⟨j0, q0, q1, q2, q3⟩ := info_parts info3
            obtain ⟨S, hS⟩ : ∃ S, w4.heap.size = S := ⟨_, rfl⟩
            have hDS : D ≤ S := by rw [← hS, ← HD.out]; exact B4.out.size
            obtain ⟨ad1, ea1, hc1⟩ := head_cells (c := cl) (p := 0) hcl'
            obtain ⟨ad2, ea2, hc2⟩ := cut_cells (c := cl) (p := 1) (by omega) hcl'
            have hs1 : ∀ w, (Instr.sliceAt 49 (.slice (some ⟨gl, 0, none⟩) (n - i) cl) none (some (.int .i64 (0 : Int))) none).run Try.prog w = .ok (.slice (some ad1) 0 cl) w := fun w => by
              have := islice_hi (some ⟨gl, 0, none⟩) (n - i) cl 0 (by omega) w
              rwa [ea1] at this
            have hs2 : ∀ w, (Instr.sliceAt 49 (.slice (some ⟨gl, 0, none⟩) (n - i) cl) (some (.int .i64 (1 : Int))) none none).run Try.prog w = .ok (.slice (some ad2) (n - i - (1)) (cl - (1))) w := fun w => by
              have := islice_lo (some ⟨gl, 0, none⟩) (n - i) cl (1) (by omega) w
              rwa [ea2] at this
            have hwr : IntKind.i64.wrap (1 : Int) = (1 : Int) := by unfold IntKind.wrap; simp [IntKind.bits, IntKind.signed] <;> omega
            have htn : (1 : Int).toNat = 1 := by omega
            have hb2 : (1 : Int) ≤ ((n - i : Nat) : Int) := by omega
            have hb3 : (0 : Int) ≤ (1 : Int) := by omega
            have ea3 : (if cl = 1 then (some ⟨gl, 0, none⟩ : Option Addr) else some ⟨gl, 1, none⟩) = some ad2 := by
              rw [← ea2]; unfold sl
              by_cases e : cl = 1
              · rw [if_pos e, if_pos e]
              · rw [if_neg e, if_neg e]; show _ = some ((⟨gl, 0, none⟩ : Addr).add ((1) * 1)); rw [addr_add]; all_goals (congr 2; omega)
            have O6 : Hid (∀ X, Alike (w4.alloc (.cells #[] 3)) X → X.ownsRow S 3 1 (.slice (some ⟨S, 0, none⟩) 0 0) 0 []) := fun X hX =>
              ⟨rfl, Or.inr ⟨S, 0, #[], rfl, Nat.le_refl _, by rw [hX.heap, ← hS]; exact heap_alloc_last _ _, Nat.le_refl _, Nat.zero_le _, rfl, rfl⟩⟩
            have L6 : Hid (∀ X, Alike (w4.alloc (.cells #[] 3)) X → Below w4.heap.size w4 X) := fun X hX => below_alike ((Below.refl _ _).alloc (Nat.le_refl _) _) hX
            have L6g : Hid (∀ X w5 : World, X.grownBy w5 (some S) → Alike (w4.alloc (.cells #[] 3)) X → Below w4.heap.size w4 w5) := fun X w5 hg hX =>
              (below_alike ((Below.refl _ _).alloc (Nat.le_refl _) _) hX).grown hg (by rw [hX.heap]; simp) (fun q e => by cases e; exact Nat.le_of_eq hS)
            have K1 : Hid (∀ X, Below w4.heap.size w4 X → ∀ j u, (ints (l.take 0))[j]? = some u → X.cell? (ad1.add j) = some u) := fun X hX j u hj => cell_later hX (hc1 j u hj)
            have K2 : Hid (∀ X, Below w4.heap.size w4 X → ∀ j u, (ints (l.drop (1)))[j]? = some u → X.cell? (ad2.add j) = some u) := fun X hX j u hj => cell_later hX (hc2 j u hj)
            have N1 : Hid ((ints (l.take 0)).length = 0 * 1) := by show _ = _; rw [ints_length, List.length_take]; omega
            have N2 : Hid ((ints (l.drop (1))).length = (n - i - (1)) * 1) := by show _ = _; rw [ints_length, List.length_drop]; omega
            have HS : Hid (w4.heap.size = S) := hS
            clear hcl' hgl' hlc' hc1 hc2 ea1 ea2 own5
            go_wp2_with fail
            go_region_law (first
              | (refine step_append_mine rfl _ _ 49 rfl S 3 j0 (.int .i64 0) 1 8 under49 q0 q1 q2 q3 rfl (by decide) (.slice (some ⟨S, 0, none⟩) 0 0) 0 [] rfl (O6.out _ ⟨rfl, rfl, rfl, rfl⟩) ad1 0 cl (ints (l.take 0)) rfl N1.out (K1.out _ (L6.out _ ⟨rfl, rfl, rfl, rfl⟩)) (ints_one _) (by unfold maxLen; omega) (by omega) (by have := (L6.out _ ⟨rfl, rfl, rfl, rfl⟩ : Below w4.heap.size w4 _).size; rw [HS.out] at this; exact this) ?_; intro v5 w5 own6 hgrow1; have L5 : Hid (Below w4.heap.size w4 w5) := L6g.out _ _ hgrow1 ⟨rfl, rfl, rfl, rfl⟩)
              | (refine step_append_mine rfl _ _ 49 rfl S 3 j0 (.int .i64 0) 1 8 under49 q0 q1 q2 q3 rfl (by decide) v5 _ _ rfl own6 ad2 (n - i - (1)) (cl - (1)) (ints (l.drop (1))) rfl N2.out (K2.out _ L5.out) (ints_one _) (by unfold maxLen; omega) (by omega) (by have := L5.out.size; rw [HS.out] at this; exact this) ?_; intro v6 w6 own7 hgrow2; have L7 : Hid (Below w4.heap.size w4 w6) := L5.out.grown hgrow2 L5.out.size (fun q e => by rw [HS.out]; exact (own6.lt q e).1)))
            have O7 : w6.ownsRow D 3 1 v6 (n - (i + 1)) (ints (l.take 0 ++ l.drop (1))) := by
              have h := own_mono own7 hDS
              rwa [show 0 + 0 + (n - i - (1)) = n - (i + 1) by omega, List.nil_append, ints_append] at h
            have O8 := own_up own4 L7.out
            have B6 : Hid (Below D Wc w6) := B4.out.trans (L7.out.mono (by rw [HS.out]; exact hDS))
            clear own6 own7 own4 hgrow1 hgrow2 L5 L7 B4 K1 K2 N1 N2 L6 L6g O6 hs1 hs2 hwr htn hb2 hb3 ea3 q0 q1 q2 q3 HS hS
            go_wp2_with fail
            exact ⟨⟨i + 1, _, _, _, by omega, by go_num, O7, O8, P1, B6⟩, by simp [intOf]; omega⟩
        · have hia' : i = a := by omega
          subst hia'
          have j2 : decide ((i : Int) < (i : Int)) = false := by simp
          have hBW : Below Wc.heap.size Wc wr := by rw [HD.out]; exact HB.out
          obtain ⟨gr, cr, rfl, MR⟩ := HP.out.matF ha1 own2 hBW
          have TR := Tc.up hBW
          have BR : Hid (Below w.heap.size w wr) := Bc.out.trans (hBW.mono Bc.out.size)
          have bR : Gf.B8 (fun t => Gf.cau i (r t)) := fun _ _ => Gf.cau_lt _ _ _
          have hinj : Hid (Gf.Inj i (fun t => Gf.cau i (r t))) := Gf.cauchy_inj (by omega) r (fun t ht => by have := HP.out.lt t ht; omega) HP.out.inj
          clear own1 own2 HB hBW HP
          go_wp2_with fail
          refine (invert_any _ t i cr _ bR ha1 (by omega) wr MR TR).mono ?_
          rintro e w5 ⟨L5, ⟨_, _, V, rfl, _, bV, v1, _, _⟩ | ⟨_, no⟩⟩
          · have T5 := TR.up L5
            have B5 : Hid (Below w.heap.size w w5) := BR.out.trans (L5.mono BR.out.size)
            have M5 := MR.below L5
            clear TR BR MR L5
            go_wp2_with fail
            refine (rank_any _ t i i cr _ bR ha1 (by omega) ha1 (by omega) w5 M5 T5).mono ?_
            rintro e w6 ⟨rk, rfl, hr, _, L6⟩
            have hrk : rk = i := Gf.rank_unique bR hr (Gf.rank_of_inv bR bV v1)
            subst hrk
            have B6 : Hid (Below w.heap.size w w6) := B5.out.trans (L6.mono B5.out.size)
            have ee : ((rk : Int) == (rk : Int)) = true := by simp
            clear L6 B5 T5 M5 hr v1
            go_wp2_with fail
            refine (mruns_any _).mono ?_
            rintro e w7 ⟨rfl, L7⟩
            have B7 : Hid (Below w.heap.size w w7) := B6.out.trans (L7.mono B6.out.size)
            clear L7 B6
            go_wp2_with fail
            go_ret
            exact ⟨rfl, B7.out⟩
          · exact absurd hinj.out no
end Go.Proofs.Ytdinhkcdllmmkaa
