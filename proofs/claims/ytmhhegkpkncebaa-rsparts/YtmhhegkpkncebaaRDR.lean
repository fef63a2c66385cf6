/-
  DECODE and REBUILD of the reference; what they tell is one answer.
-/
import Derived.Test.YtmhhegkpkncebaaRPick
import Derived.Test.YtmhhegkpkncebaaRInv
import Derived.Test.YtmhhegkpkncebaaPick
import Derived.Test.YtmhhegkpkncebaaRebuild
import Derived.Test.YtmhhegkpkncebaaRefEnc
namespace Go.Proofs.Ytmhhegkpkncebaa
open Go.RowKit

/-- Rows that were gathered. -/
def Gath (w0 : World) (k : Nat) (A : Nat → Nat → Nat) (t : Nat) (xs : List Value) : Prop := ∀ i, i < t → ∃ ra rc, xs[i]? = some (.slice ra k rc) ∧ k ≤ rc ∧ RowF w0 ra (A i) k
theorem Gath.matF {w w0 : World} {B k : Nat} {A : Nat → Nat → Nat} {xs : List Value} {v : Value} (h : Gath w0 k A k xs) (hk : 1 ≤ k) (hown : w.ownsRow B 54 1 v k xs) (hb : Below w0.heap.size w0 w) : ∃ g c, v = .slice (some ⟨g, 0, none⟩) k c ∧ MatF w (some ⟨g, 0, none⟩) A k k := by
  obtain ⟨g, c, hv, _, _, _, hc⟩ := own_cells hown hk
  refine ⟨g, c, hv, Or.inr ⟨g, 0, rfl, fun t ht => ?_⟩⟩
  obtain ⟨ra, rc, q1, q2, q3⟩ := h t ht
  exact ⟨ra, rc, by rw [Nat.zero_add]; exact hc t _ q1, q2, q3.below hb⟩
/-- What is reckoned so far. -/
def soF (V : Nat → Nat → Nat) (D : Nat → ByteArray) (k L j x i y : Nat) : Nat := if y < j * L + x then solF V D k L y else if y = j * L + x then mixF (V j) D i x else 0
theorem soF_zero (V : Nat → Nat → Nat) (D : Nat → ByteArray) (k L y : Nat) : soF V D k L 0 0 0 y = 0 := by
  unfold soF
  rw [if_neg (by omega)]; split
  · rfl
  · rfl
theorem soF_next {V : Nat → Nat → Nat} {D : Nat → ByteArray} {k L j x : Nat} (hx : x < L) (y : Nat) : soF V D k L j x k y = soF V D k L j (x + 1) 0 y := by
  unfold soF
  by_cases h1 : y < j * L + x
  · rw [if_pos h1, if_pos (by omega)]
  · rw [if_neg h1]
    by_cases h2 : y = j * L + x
    · rw [if_pos h2, if_pos (by omega)]
      unfold solF
      rw [h2, show j * L + x = x + L * j by rw [Nat.mul_comm]; omega, Nat.add_mul_div_left _ _ (by omega), Nat.div_eq_of_lt hx, Nat.add_mul_mod_self_left, Nat.mod_eq_of_lt hx, Nat.zero_add]
    · rw [if_neg h2, if_neg (by omega)]
      split
      · rfl
      · rfl
theorem soF_set (V : Nat → Nat → Nat) (D : Nat → ByteArray) (k L j x i Y : Nat) (e : Y = j * L + x) (y : Nat) : (if y = Y then mixF (V j) D (i + 1) x else soF V D k L j x i y) = soF V D k L j x (i + 1) y := by
  unfold soF
  rw [← e]
  by_cases h1 : y = Y
  · rw [if_pos h1, if_neg (by omega), if_pos h1]
  · rw [if_neg h1, if_neg h1, if_neg h1]
theorem soF_at (V : Nat → Nat → Nat) (D : Nat → ByteArray) (k L j x i Y : Nat) (e : Y = j * L + x) : soF V D k L j x i Y = mixF (V j) D i x := by
  unfold soF
  rw [← e, if_neg (by omega), if_pos rfl]
theorem soF_end (V : Nat → Nat → Nat) (D : Nat → ByteArray) (k L y : Nat) (h : y < k * L) : soF V D k L k 0 0 y = solF V D k L y := by
  unfold soF
  rw [if_pos (by omega)]
theorem soF_row {V : Nat → Nat → Nat} {D : Nat → ByteArray} {k L j : Nat} (y : Nat) : soF V D k L j L 0 y = soF V D k L (j + 1) 0 0 y := by
  unfold soF
  rw [Nat.succ_mul, Nat.add_zero]
  by_cases h1 : y < j * L + L
  · rw [if_pos h1, if_pos h1]
  · rw [if_neg h1, if_neg h1]
    by_cases h2 : y = j * L + L
    · rw [if_pos h2, if_pos h2]; rfl
    · rw [if_neg h2, if_neg h2]

set_option maxHeartbeats 4000000 in
set_option maxRecDepth 100000 in
theorem rdec_any (k m n c : Nat) (Z : Int) (a : Option Addr) (A : Nat → Int) (D : Nat → ByteArray) (hk1 : 1 ≤ k) (hk : k ≤ 8) (hm : k + m ≤ 12) (hn : n ≤ 4096) (w : World) (hp : PartF w a A D n) :
    Calls Try.prog 23 #[.int .i64 (k : Int), .int .i64 (m : Int), .int .i64 Z, .slice a n c] w fun e w' => ∃ s r, e = .returned (.tuple #[.string s, .int .i64 r]) ∧ DecR k (k + m) n A D Z s r ∧ Below w.heap.size w w' := by
  go_enter Try.func23, Try.ntmps23
  go_wp2_with fail
  refine (rpick_any k m n c Z a A D hk1 hk hm hn _ hp).mono ?_
  rintro e w1 ⟨hb1, h1⟩
  have HB1 : Hid (Below w.heap.size w w1) := hb1
  clear hb1 hp
  rcases h1 with ⟨hZ, rfl⟩ | ⟨z, rfl, hz, ⟨hno, rfl⟩ | ⟨hok, hlt, rfl⟩ | ⟨hok, hlen, g, cap, rfl, hpf⟩⟩
  · have HZ : Hid (Z < 0 ∨ 1048576 < Z) := hZ
    clear hZ
    go_wp2_with fail
    go_ret2
    exact ⟨_, _, rfl, Or.inl ⟨HZ.out, rfl, rfl⟩, HB1.out⟩
  · have HNO : Hid (∃ i, i < n ∧ ¬ OkP k (k + m) z (A i) (D i)) := hno
    clear hno
    go_wp2_with fail
    go_ret2
    exact ⟨_, _, rfl, Or.inr ⟨z, rfl, hz, Or.inl ⟨HNO.out, rfl, rfl⟩⟩, HB1.out⟩
  · have HOK : Hid (∀ i, i < n → OkP k (k + m) z (A i) (D i)) := hok
    have HLT : Hid ((fst A k n).length < k) := hlt
    clear hok hlt
    go_wp2_with fail
    go_ret2
    exact ⟨_, _, rfl, Or.inr ⟨z, rfl, hz, Or.inr (Or.inl ⟨HOK.out, HLT.out, rfl, rfl⟩)⟩, HB1.out⟩
  have HOK : Hid (∀ i, i < n → OkP k (k + m) z (A i) (D i)) := hok
  have HLen : Hid ((fst A k n).length = k) := hlen
  have hok2 : ∀ i, i < k → OkP k (k + m) z (A ((fst A k n).getD i 0)) (D ((fst A k n).getD i 0)) := fun i hi => hok _ (fst_lt A k n _ (getD_mem (by rw [hlen]; exact hi)))
  have HPF : Hid (PartF w1 (some ⟨g, 0, none⟩) (fun i => ((pX A k n i : Nat) : Int)) (pD A D k n) k) := by
    rcases hpf with h | ⟨p, o, e, h⟩
    · exfalso; omega
    · refine Or.inr ⟨p, o, e, fun i hi => ?_⟩
      have h1 := h i hi
      refine ⟨?_, h1.2⟩
      rw [h1.1]
      have := (hok2 i hi).1
      show _ = some (Value.int .i64 ((pX A k n i : Nat) : Int))
      unfold pX
      rw [Int.toNat_of_nonneg this]
  have HX : Hid (∀ i, i < k → pX A k n i < k + m) := fun i hi => by
    have := hok2 i hi
    unfold pX; have h1 := this.1; have h2 := this.2.1; omega
  have Hd : Hid (∀ i j, i < k → j < k → pX A k n i = pX A k n j → i = j) := fun i j hi hj e => by
    refine fst_inj A k n i j (by rw [hlen]; exact hi) (by rw [hlen]; exact hj) ?_
    have h1 := (hok2 i hi).1
    have h2 := (hok2 j hj).1
    unfold pX at e
    omega
  have HDD : Hid (∀ i, i < k → (pD A D k n i).size = szk k z) := fun i hi => (hok2 i hi).2.2
  obtain ⟨X, eX⟩ : ∃ X, X = pX A k n := ⟨_, rfl⟩
  obtain ⟨P, eP⟩ : ∃ P, P = pD A D k n := ⟨_, rfl⟩
  rw [← eX] at HX Hd HPF
  rw [← eP] at HDD HPF
  have EX : Hid (X = pX A k n) := eX
  have EP : Hid (P = pD A D k n) := eP
  clear hok hlen hok2 hpf eX eP
  go_wp2_with fail
  refine (rcau_own k m hk1 hk hm _).mono ?_
  rintro e w2 ⟨v2, xs2, rfl, ho, hr, hb2⟩
  obtain ⟨g2, cap2, ev, hM, hc2⟩ := own_matF (by omega) ho hr
  subst ev
  have HM : Hid (MatF w2 (some ⟨g2, 0, none⟩) (Gf.cau k) (k + m) k) := hM
  have HB2 : Hid (Below w1.heap.size w1 w2) := hb2
  clear ho hr hM hb2
  go_wp2_with fail
  go_loopw [13, 14] (fun v i wr => ∃ (t : Nat) (xs : List Value), t ≤ k ∧ i = .int .i64 (t : Int) ∧ wr.ownsRow w2.heap.size 54 1 v t xs ∧ Hid (Gath w2 k (fun i j => Gf.cau k (X i) j) t xs) ∧ Hid (Below w2.heap.size w2 wr)) (fun _ i _ => k - (intOf i).toNat)
  case atStart => exact ⟨0, [], by omega, rfl, World.ownsRow_nil _ _ _ _, fun i hi => by omega, Below.refl _ _⟩
  case round =>
    obtain ⟨t, xs, ht, rfl, own, HGa, HB⟩ := hrel
    by_cases hlt : t < k
    · have hi1 : (t : Int) < (k : Int) := by omega
      obtain ⟨p, o, e0, q1⟩ : ∃ p off, (some ⟨g, 0, none⟩ : Option Addr) = some ⟨p, off, none⟩ ∧ ∀ i, i < k → wr.cell? ⟨p, off + i * 2, none⟩ = some (.int .i64 ((X i : Nat) : Int)) ∧ wr.cell? ⟨p, off + i * 2 + 1, none⟩ = some (.string (P i)) := by
        rcases (HPF.out.up HB2.out).up HB.out with r | r
        · exfalso; omega
        · exact r
      injection e0 with e0; injection e0 with e1 e2 _
      subst e1 e2
      have d1 := (q1 t hlt).1
      rw [Nat.zero_add] at d1
      have hXt := HX.out t hlt
      have hXt' : ((X t : Nat) : Int) < (k : Int) + (m : Int) := by omega
      obtain ⟨p3, o3, e3, hr⟩ : ∃ p off, (some ⟨g2, 0, none⟩ : Option Addr) = some ⟨p, off, none⟩ ∧ ∀ i, i < k + m → ∃ ra rc, w2.cell? ⟨p, off + i, none⟩ = some (.slice ra k rc) ∧ k ≤ rc ∧ RowF w2 ra (Gf.cau k i) k := by
        rcases HM.out with r | r
        · exfalso; omega
        · exact r
      injection e3 with e3; injection e3 with e4 e5 _
      subst e4 e5
      obtain ⟨ra, rc, d2, hkc, hrow⟩ := hr (X t) hXt
      rw [Nat.zero_add] at d2
      have d3 := cell_later HB.out d2
      have hsz : w2.heap.size ≤ wr.heap.size := HB.out.size
      have G3 : Hid (Gath w2 k (fun i j => Gf.cau k (X i) j) (t + 1) (xs ++ [.slice ra k rc])) := fun i hi => by
        have hl : xs.length = t := by have := own.1; omega
        by_cases e : i = t
        · subst e; exact ⟨ra, rc, by rw [List.getElem?_append_right (by omega), hl, Nat.sub_self]; rfl, hkc, hrow⟩
        · obtain ⟨ra', rc', h1, h2⟩ := HGa.out i (by omega)
          exact ⟨ra', rc', by rw [List.getElem?_append_left (by omega)]; exact h1, h2⟩
      obtain ⟨i0, hi, hz0, hz1, hz2⟩ := info_parts info31
      clear q1 hr d2 hrow HGa hkc
      go_wp2_with (at_builtin; refine wpList_append_own _ rfl _ _ 34 rfl w2.heap.size 54 i0 (.slice none 0 0) 1 24 under27 hi hz0 hz1 hz2 rfl (by decide) _ _ _ rfl (own.alloc _) ⟨wr.heap.size, 0, none⟩ 1 1 [.slice ra k rc] rfl rfl ?c1 ?c2 ?c3 ?c4 ?c5 ?_)
      case c2 => rfl
      case c3 => unfold maxLen; omega
      case c4 => omega
      case c5 => omega
      intro v' w8 hown' hgrow _
      have B8 : Hid (Below w2.heap.size w2 w8) := (HB.out.alloc hsz _).grown hgrow (by rw [World.size_alloc]; omega) (fun k e => (own.lt k e).1)
      clear hgrow own d1 d3
      go_wp2_with fail
      exact ⟨⟨t + 1, _, by omega, by go_num, hown', G3, B8⟩, by simp [intOf]; omega⟩
    · have htk : t = k := by omega
      subst htk
      have i1 : decide ((t : Int) < (t : Int)) = false := by simp
      obtain ⟨gr, cr, rfl, MR⟩ := HGa.out.matF hk1 own HB.out
      have HI : Hid (Gf.Inj t (fun i j => Gf.cau t (X i) j)) := Gf.cauchy_inj (by omega) X (fun i hi => by have := HX.out i hi; omega) Hd.out
      have HMR : Hid (MatF wr (some ⟨gr, 0, none⟩) (fun i j => Gf.cau t (X i) j) t t) := MR
      have HPr : Hid (PartF wr (some ⟨g, 0, none⟩) (fun i => ((X i : Nat) : Int)) P t) := (HPF.out.up HB2.out).up HB.out
      have HBr : Hid (Below w1.heap.size w1 wr) := HB2.out.trans (HB.out.mono HB2.out.size)
      clear own MR HGa HB
      go_wp2_with fail
      refine (rinvert_any (some ⟨gr, 0, none⟩) t cr (fun i j => Gf.cau t (X i) j) (fun i j => Gf.cau_lt _ _ _) hk1 (by omega) _ HMR.out).mono ?_
      rintro e w3 ⟨hb3, ⟨gv, cv, V, rfl, MV, bV, v1, v2, _⟩ | ⟨_, no⟩⟩
      · have HMV : Hid (MatF w3 gv V t t) := MV
        have HIV : Hid (IsInv t X V) := ⟨bV, v1, v2⟩
        have HPr3 : Hid (PartF w3 (some ⟨g, 0, none⟩) (fun i => ((X i : Nat) : Int)) P t) := HPr.out.up hb3
        have HB3 : Hid (Below w1.heap.size w1 w3) := HBr.out.trans (hb3.mono HBr.out.size)
        clear MV bV v1 v2 hb3 HPr HBr HMR
        go_wp2_with fail
        refine (rsize_any t z hk1 hk (by omega) _).mono ?_
        rintro e w4 ⟨rfl, rfl⟩
        have hzl := (szk_le t z hk1).1
        have hS := szk_small hk1 hz
        obtain ⟨L, eL⟩ : ∃ L, L = szk t z := ⟨_, rfl⟩
        rw [← eL] at hS hzl ⊢
        have EL : Hid (L = szk t z) := eL
        obtain ⟨M, eM⟩ : ∃ M, M = t * L := ⟨_, rfl⟩
        have hM8 : M ≤ 8388664 := by
          have : t * L ≤ 8 * L := Nat.mul_le_mul_right L hk
          rw [eM]; omega
        have EM : Hid (M = t * L) := eM
        rw [← eM] at hzl
        have HWM : Hid (wrap64 ((t : Int) * (L : Int)) = (M : Int)) := by
          show wrap64 _ = _
          rw [show (t : Int) * (L : Int) = (M : Int) by rw [eM]; simp]
          clear eM eL
          unfold wrap64; omega
        clear eL eM
        go_wp2_with fail
        rw [HWM.out]
        go_wp2_with fail
        obtain ⟨w5, cur, hrun, hg, hcs, hz5, hb5⟩ := make_zeros w3 M (by omega)
        rw [hrun]
        clear hrun
        obtain ⟨G, eG⟩ : ∃ G, G = w3.heap.size := ⟨_, rfl⟩
        have O5 : Hid (OwnB w5 G (soF V P t L 0 0 0) M) := ⟨cur, by rw [eG]; exact hg, hcs, fun q hq => by rw [soF_zero]; exact hz5 q hq⟩
        have HB5 : Hid (Below w3.heap.size w3 w5) := hb5
        have hGB : Hid (w3.heap.size ≤ G) := by show _ ≤ _; omega
        rw [← eG]
        clear hg hcs hz5 hb5 eG
        obtain ⟨pv, ov, rfl, hrr⟩ : ∃ p off, gv = some ⟨p, off, none⟩ ∧ ∀ i, i < t → ∃ ra rc, w3.cell? ⟨p, off + i, none⟩ = some (.slice ra t rc) ∧ t ≤ rc ∧ RowF w3 ra (V i) t := by
          rcases HMV.out with r | r
          · exfalso; omega
          · exact r
        have HRR : Hid (∀ i, i < t → ∃ ra rc, w3.cell? ⟨pv, ov + i, none⟩ = some (.slice ra t rc) ∧ t ≤ rc ∧ RowF w3 ra (V i) t) := hrr
        have HPP : Hid (∀ i, i < t → w3.cell? ⟨g, i * 2 + 1, none⟩ = some (.string (P i))) := fun i hi => by
          rcases HPr3.out with r | ⟨p, o, e, r⟩
          · exfalso; omega
          · injection e with e; injection e with e1 e2 _
            subst e1 e2
            have := (r i hi).2
            rwa [Nat.zero_add] at this
        have HBV : Hid (∀ i j, V i j < 256) := HIV.out.1
        clear hrr HMV HPr3
        go_wp2_with fail
        go_loopw [19] (fun i w6 => ∃ j : Nat, j ≤ t ∧ i = .int .i64 (j : Int) ∧ Hid (OwnB w6 G (soF V P t L j 0 0) M) ∧ Hid (Below w3.heap.size w3 w6)) (fun i _ => t - (intOf i).toNat)
        case atStart => exact ⟨0, by omega, rfl, O5, HB5⟩
        case round =>
          obtain ⟨j, hj, rfl, HO, HB6⟩ := hrel
          clear O5 HB5
          by_cases hjk : j < t
          · have hi2 : (j : Int) < (t : Int) := by omega
            obtain ⟨Q, eQ⟩ : ∃ Q, Q = j * L := ⟨_, rfl⟩
            have EQ : Hid (Q = j * L) := eQ
            have hQ : Q + L ≤ M := by
              have h1 : (j + 1) * L ≤ t * L := Nat.mul_le_mul_right L (by omega)
              rw [Nat.succ_mul, ← eQ, ← EM.out] at h1; exact h1
            clear eQ
            go_wp2_with fail
            go_loopw [20] (fun i w6 => ∃ x : Nat, x ≤ L ∧ i = .int .i64 (x : Int) ∧ Hid (OwnB w6 G (soF V P t L j x 0) M) ∧ Hid (Below w3.heap.size w3 w6)) (fun i _ => L - (intOf i).toNat)
            case atStart => exact ⟨0, by omega, rfl, HO, HB6⟩
            case round =>
              obtain ⟨x, hx, rfl, HO7, HB7⟩ := hrel
              clear HO HB6
              by_cases hxL : x < L
              · have hi3 : (x : Int) < (L : Int) := by omega
                go_wp2_with fail
                go_loopw [21] (fun i w6 => ∃ s : Nat, s ≤ t ∧ i = .int .i64 (s : Int) ∧ Hid (OwnB w6 G (soF V P t L j x s) M) ∧ Hid (Below w3.heap.size w3 w6)) (fun i _ => t - (intOf i).toNat)
                case atStart => exact ⟨0, by omega, rfl, HO7, HB7⟩
                case round =>
                  obtain ⟨s, hs, rfl, HO8, HB8⟩ := hrel
                  clear HO7 HB7
                  by_cases hst : s < t
                  · have hi4 : (s : Int) < (t : Int) := by omega
                    have mW1 : IntKind.i64.wrap ((j : Int) * (L : Int)) = (Q : Int) := by
                      rw [wrap_eq64, show (j : Int) * (L : Int) = (Q : Int) by rw [EQ.out]; simp]
                      unfold wrap64; omega
                    obtain ⟨y0, ey⟩ : ∃ y0, y0 = Q + x := ⟨_, rfl⟩
                    have mW2 : IntKind.i64.wrap ((Q : Int) + (x : Int)) = (y0 : Int) := by rw [IntKind.wrap_i64]; clear mW1; omega
                    have ey2 : y0 = j * L + x := by rw [ey, EQ.out]
                    obtain ⟨ra, rc, dd, _, hrow⟩ := HRR.out j hjk
                    obtain ⟨p2, o2, rfl, hrow2⟩ : ∃ p off, ra = some ⟨p, off, none⟩ ∧ ∀ i, i < t → w3.cell? ⟨p, off + i, none⟩ = some (.int .u8 ((V j i : Nat) : Int)) := by
                      rcases hrow with r | r
                      · exfalso; omega
                      · exact r
                    have hQx : y0 < M := by clear ey2 mW1 mW2; omega
                    have hQx' : (y0 : Int) < (M : Int) := by clear ey2 mW1 mW2; omega
                    have c4 := str_at' (P s) x (x : Int) rfl (by rw [HDD.out s hst, ← EL.out]; exact hxL)
                    have hb8 := bt_lt (P s) x
                    have hc8 := HBV.out j s
                    have hxor := xor_u8 (mixF (V j) P s x) (Gf.mul (V j s) (bt (P s) x)) (mixF_lt _ _ _ _) (Gf.mul_lt _ _)
                    go_wp2_with fail
                    refine wp_region_still_tail 31 (by kernel_rfl) (by kernel_rfl) ?_
                    simp only [List.take_succ_cons, List.take_zero, List.drop_succ_cons, List.drop_zero]
                    obtain ⟨Y, eY, yO, yB⟩ : ∃ Y, Y = ({ wr with drawn := wr.drawn + 1 } : World) ∧ OwnB Y G (soF V P t L j x s) M ∧ Below w3.heap.size w3 Y :=
                      ⟨_, rfl, HO8.out.alike ⟨rfl, rfl, rfl, rfl⟩, below_drewN HB8.out 1⟩
                    rw [← eY]
                    have c1 : Y.cell? ⟨G, y0, none⟩ = some (.int .u8 ((mixF (V j) P s x : Nat) : Int)) := by
                      rw [yO.cell hQx, soF_at V P t L j x s y0 ey2]
                    have c2 := cell_later yB dd
                    have c3 := cell_later yB (hrow2 s hst)
                    have c5 := cell_later yB (HPP.out s hst)
                    have fz := yO.fz y0
                    have O9 : Hid (OwnB (Y.setCell ⟨G, y0, none⟩ (.int .u8 ((mixF (V j) P s x ^^^ Gf.mul (V j s) (bt (P s) x) : Nat) : Int))) G (soF V P t L j x (s + 1)) M) :=
                      (yO.set (v := mixF (V j) P s x ^^^ Gf.mul (V j s) (bt (P s) x)) hQx).congr (fun y _ => soF_set V P t L j x s y0 ey2 y)
                    have B9 : Hid (Below w3.heap.size w3 (Y.setCell ⟨G, y0, none⟩ (.int .u8 ((mixF (V j) P s x ^^^ Gf.mul (V j s) (bt (P s) x) : Nat) : Int)))) := yB.setCell hGB.out _
                    clear HO8 HB8 yO yB eY dd hrow2 ey ey2
                    repeat still_step
                    still_call (rmul_any (V j s) (bt (P s) x) hc8 hb8 _)
                    repeat still_step
                    refine wpStill_nil ?_
                    go_wp2_with fail
                    exact ⟨⟨s + 1, by omega, by go_num, O9, B9⟩, by simp [intOf]; omega⟩
                  · have hsn : s = t := by omega
                    subst hsn
                    have i1 : decide ((s : Int) < (s : Int)) = false := by simp
                    have O9 : Hid (OwnB wr G (soF V P s L j (x + 1) 0) M) := HO8.out.congr (fun y _ => soF_next hxL y)
                    clear HO8
                    go_wp2_with fail
                    exact ⟨⟨x + 1, by omega, by go_num, O9, HB8⟩, by simp [intOf]; omega⟩
              · have hxn : x = L := by omega
                subst hxn
                have i1 : decide ((x : Int) < (x : Int)) = false := by simp
                have O8 : Hid (OwnB wr G (soF V P t x (j + 1) 0 0) M) := HO7.out.congr (fun y _ => soF_row y)
                clear HO7
                go_wp2_with fail
                exact ⟨⟨j + 1, by omega, by go_num, O8, HB7⟩, by simp [intOf]; omega⟩
          · have hjn : j = t := by omega
            subst hjn
            have i1 : decide ((j : Int) < (j : Int)) = false := by simp
            obtain ⟨F, eF⟩ : ∃ F, F = solF V P j L := ⟨_, rfl⟩
            have EF : Hid (F = solF V P j L) := eF
            have HO9 : Hid (OwnB wr G F M) := HO.out.congr (fun y hy => by rw [eF]; exact soF_end V P j L y (by rw [← EM.out]; exact hy))
            have HBf : Hid (Below w.heap.size w wr) := HB1.out.trans ((HB3.out.trans (HB6.out.mono HB3.out.size)).mono HB1.out.size)
            obtain ⟨W, eW⟩ : ∃ W, W = wr := ⟨_, rfl⟩
            subst eW
            have hhi := slice_hi (some ⟨G, 0, none⟩) M M z (by omega)
            have hconv := conv_str W (sl (some ⟨G, 0, none⟩) 0 M) z M F (HO9.out.rowF.head z M hzl (Nat.le_refl _))
            clear HO HB6 eF
            go_wp2_with fail
            go_loopw [22] (fun i wr => ∃ q : Nat, z ≤ q ∧ q ≤ M ∧ i = .int .i64 (q : Int) ∧ Hid (∀ y, z ≤ y → y < q → F y = 0) ∧ wr = W) (fun i _ => M - (intOf i).toNat)
            case atStart => exact ⟨z, by omega, hzl, rfl, fun y _ hy => by omega, rfl⟩
            case round =>
              obtain ⟨q, hq1, hq2, rfl, HZ, rfl⟩ := hrel
              by_cases hqM : q < M
              · have hi2 : (q : Int) < (M : Int) := by omega
                have d1 := HO9.out.cell hqM
                clear hhi hconv
                by_cases hF : F q = 0
                · have i4 : (((F q : Nat) : Int) != 0) = false := by simp; omega
                  have HZ2 : Hid (∀ y, z ≤ y → y < q + 1 → F y = 0) := fun y h1 hy => by
                    by_cases e : y = q
                    · rw [e]; exact hF
                    · exact HZ.out y h1 (by omega)
                  clear HZ hF
                  have K1 : q + 1 ≤ M := hqM
                  go_wp2_with fail
                  exact ⟨⟨q + 1, by omega, K1, by go_num, HZ2, trivial⟩, by simp [intOf]; omega⟩
                · have i4 : (((F q : Nat) : Int) != 0) = true := by simp; omega
                  have HF : Hid (F q ≠ 0) := hF
                  clear hF
                  go_wp2_with fail
                  go_ret2
                  refine ⟨_, _, rfl, Or.inr ⟨z, rfl, hz, Or.inr (Or.inr ⟨HOK.out, HLen.out, V, EX.out ▸ HIV.out, Or.inl ⟨⟨q, hq1, ?_, ?_⟩, rfl, rfl⟩⟩)⟩, HBf.out⟩
                  · rw [← EL.out, ← EM.out]; exact hqM
                  · rw [← EL.out, ← EP.out, ← EF.out]; exact HF.out
              · have hqk : q = M := by omega
                have i4 : decide ((q : Int) < (M : Int)) = false := by simp; omega
                have HQK : Hid (q = M) := hqk
                clear hqk
                go_wp2_with fail
                go_ret2
                refine ⟨_, _, rfl, Or.inr ⟨z, rfl, hz, Or.inr (Or.inr ⟨HOK.out, HLen.out, V, EX.out ▸ HIV.out, Or.inr ⟨fun y h1 h2 => ?_, ?_, rfl⟩⟩)⟩, HBf.out⟩
                · rw [← EL.out, ← EM.out] at h2
                  rw [← EL.out, ← EP.out, ← EF.out]
                  exact HZ.out y h1 (by rw [HQK.out]; exact h2)
                · rw [← EL.out, ← EP.out, ← EF.out]
      · exact absurd HI.out no
end Go.Proofs.Ytmhhegkpkncebaa

namespace Go.Proofs.Ytmhhegkpkncebaa
open Go.RowKit

theorem DecR.small {k N n : Nat} {A : Nat → Int} {D : Nat → ByteArray} {Z : Int} {s : ByteArray} {r : Int} (h : DecR k N n A D Z s r) (hk1 : 1 ≤ k) (hk : k ≤ 8) (hr : r = 0) (hD : ∀ i, i < n → (D i).size ≤ 300) : s.size ≤ 2400 := by
  rcases h with ⟨_, _, h⟩ | ⟨z, _, hz, ⟨_, _, h⟩ | ⟨_, _, _, h⟩ | ⟨hok, hlen, V, _, ⟨_, _, h⟩ | ⟨_, h, _⟩⟩⟩
  · omega
  · omega
  · omega
  · omega
  · rw [h, mkS_size]
    have h0 : (fst A k n).getD 0 0 < n := fst_lt A k n _ (getD_mem (by rw [hlen]; exact hk1))
    have h1 := (hok _ h0).2.2
    have h2 := hD _ h0
    have h3 := (szk_le k z hk1).1
    rw [← h1] at h3
    have h4 : k * (D ((fst A k n).getD 0 0)).size ≤ 8 * 300 := Nat.mul_le_mul hk h2
    omega

set_option maxHeartbeats 2000000 in
set_option maxRecDepth 100000 in
theorem rreb_any (k m n c : Nat) (Z at' : Int) (a : Option Addr) (A : Nat → Int) (D : Nat → ByteArray) (hk1 : 1 ≤ k) (hk : k ≤ 8) (hm : k + m ≤ 12) (hn : n ≤ 4096) (hD : ∀ i, i < n → (D i).size ≤ 300) (w : World) (hp : PartF w a A D n) :
    Calls Try.prog 24 #[.int .i64 (k : Int), .int .i64 (m : Int), .int .i64 Z, .int .i64 at', .slice a n c] w fun e w' => ∃ s r, e = .returned (.tuple #[.string s, .int .i64 r]) ∧ RebR k (k + m) n A D Z at' s r ∧ Below w.heap.size w w' := by
  have HP : Hid (PartF w a A D n) := hp
  have HD : Hid (∀ i, i < n → (D i).size ≤ 300) := hD
  clear hp hD
  by_cases h1 : at' < 0
  · go_enter Try.func24, Try.ntmps24
    go_wp2_with fail
    go_ret2
    exact ⟨_, _, rfl, Or.inl ⟨Or.inl h1, rfl, rfl⟩, Below.refl _ _⟩
  · have i1 : decide (at' < 0) = false := by simp; omega
    by_cases h2 : (k : Int) + (m : Int) ≤ at'
    · go_enter Try.func24, Try.ntmps24
      go_wp2_with fail
      go_ret2
      exact ⟨_, _, rfl, Or.inl ⟨Or.inr (by rw [Int.natCast_add]; exact h2), rfl, rfl⟩, Below.refl _ _⟩
    · have i2 : decide ((k : Int) + (m : Int) ≤ at') = false := by simp; omega
      obtain ⟨x, rfl⟩ : ∃ x : Nat, at' = (x : Int) := ⟨at'.toNat, by omega⟩
      have hxN : x < k + m := by omega
      have hxI : (x : Int) < ((k + m : Nat) : Int) := by omega
      go_enter Try.func24, Try.ntmps24
      go_wp2_with fail
      refine (rdec_any k m n c Z a A D hk1 hk hm hn _ HP.out).mono ?_
      rintro e w1 ⟨v, r, rfl, hdec, hb1⟩
      have HDec : Hid (DecR k (k + m) n A D Z v r) := hdec
      have HB1 : Hid (Below w.heap.size w w1) := hb1
      clear hdec hb1
      by_cases hr : r = 0
      · have i3 : (r != 0) = false := by simp [hr]
        have hv := HDec.out.small hk1 hk hr HD.out
        have hr0 : Hid (r = 0) := hr
        clear hr
        go_wp2_with fail
        refine (renc_any k m v hk1 hk hm (by omega) _).mono ?_
        rintro e w2 ⟨g, cap, rfl, hS, hb2⟩
        have HB2 : Hid (Below w.heap.size w w2) := HB1.out.trans (hb2.mono HB1.out.size)
        obtain ⟨p0, o0, e0, q0⟩ : ∃ p off, (some ⟨g, 0, none⟩ : Option Addr) = some ⟨p, off, none⟩ ∧ ∀ i, i < k + m → w2.cell? ⟨p, off + i, none⟩ = some (.string (fragS k v i)) := by
          rcases hS with r | r
          · exfalso; omega
          · exact r
        injection e0 with e0; injection e0 with e1 e2 _
        subst e1 e2
        have d1 := q0 x hxN
        rw [Nat.zero_add] at d1
        clear q0 hS hb2
        go_wp2_with fail
        go_ret2
        exact ⟨_, _, rfl, Or.inr ⟨by omega, hxI, v, r, HDec.out, Or.inr ⟨hr0.out, by rw [Int.toNat_natCast], rfl⟩⟩, HB2.out⟩
      · have i3 : (r != 0) = true := by simp [hr]
        have Hr : Hid (r ≠ 0) := hr
        clear hr
        go_wp2_with fail
        go_ret2
        exact ⟨_, _, rfl, Or.inr ⟨by omega, hxI, v, r, HDec.out, Or.inl ⟨Hr.out, rfl, rfl⟩⟩, HB1.out⟩

theorem mixF_congr {f g : Nat → Nat} (R : Nat → ByteArray) (x : Nat) : ∀ k, (∀ j, j < k → f j = g j) → mixF f R k x = mixF g R k x
  | 0, _ => rfl
  | k + 1, h => by rw [mixF_succ, mixF_succ, mixF_congr R x k (fun j hj => h j (by omega)), h k (by omega)]
theorem dec_one {k N n : Nat} {A : Nat → Int} {D : Nat → ByteArray} {Z : Int} {s s' : ByteArray} {r r' : Int} (hk1 : 1 ≤ k) (h : DecR k N n A D Z s r) (h' : DecR k N n A D Z s' r') : s = s' ∧ r = r' := by
  have key : ∀ V V', IsInv k (pX A k n) V → IsInv k (pX A k n) V' → ∀ L y, y < k * L → solF V (pD A D k n) k L y = solF V' (pD A D k n) k L y := by
    intro V V' h1 h2 L y hy
    have hL : 0 < L := by
      rcases Nat.eq_zero_or_pos L with e | e
      · subst e; simp at hy
      · exact e
    have hd : y / L < k := Nat.div_lt_of_lt_mul (by rw [Nat.mul_comm]; exact hy)
    exact mixF_congr _ _ k (fun j hj => Gf.inv_unique h1.1 (fun i j => Gf.cau_lt _ _ _) h2.1 h1.2.1 h2.2.2 _ hd j hj)
  rcases h with ⟨hZ, e1, e2⟩ | ⟨z, hZ, hz, h⟩
  · rcases h' with ⟨_, e1', e2'⟩ | ⟨z', hZ', hz', _⟩
    · exact ⟨e1.trans e1'.symm, e2.trans e2'.symm⟩
    · exfalso; omega
  · rcases h' with ⟨hZ', _⟩ | ⟨z', hZ', hz', h'⟩
    · exfalso; omega
    · have ez : z' = z := by omega
      subst ez
      rcases h with ⟨⟨i, hi, no⟩, e1, e2⟩ | ⟨ok, hl, e1, e2⟩ | ⟨ok, hl, V, hV, h⟩
      · rcases h' with ⟨_, e1', e2'⟩ | ⟨ok', _⟩ | ⟨ok', _⟩
        · exact ⟨e1.trans e1'.symm, e2.trans e2'.symm⟩
        · exact absurd (ok' i hi) no
        · exact absurd (ok' i hi) no
      · rcases h' with ⟨⟨i, hi, no⟩, _⟩ | ⟨_, _, e1', e2'⟩ | ⟨_, hl', _⟩
        · exact absurd (ok i hi) no
        · exact ⟨e1.trans e1'.symm, e2.trans e2'.symm⟩
        · exfalso; omega
      · rcases h' with ⟨⟨i, hi, no⟩, _⟩ | ⟨_, hl', _⟩ | ⟨_, _, V', hV', h'⟩
        · exact absurd (ok i hi) no
        · exfalso; omega
        · have K := key V V' hV hV' (szk k z')
          rcases h with ⟨⟨y, y1, y2, y3⟩, e1, e2⟩ | ⟨hall, e1, e2⟩
          · rcases h' with ⟨_, e1', e2'⟩ | ⟨hall', _⟩
            · exact ⟨e1.trans e1'.symm, e2.trans e2'.symm⟩
            · exact absurd ((K y y2).trans (hall' y y1 y2)) y3
          · rcases h' with ⟨⟨y, y1, y2, y3⟩, _⟩ | ⟨_, e1', e2'⟩
            · exact absurd ((K y y2).symm.trans (hall y y1 y2)) y3
            · refine ⟨?_, e2.trans e2'.symm⟩
              rw [e1, e1']
              exact mkS_congr (fun i hi => K i (by have := (szk_le k z' hk1).1; omega))
theorem reb_one {k N n : Nat} {A : Nat → Int} {D : Nat → ByteArray} {Z at' : Int} {s s' : ByteArray} {r r' : Int} (hk1 : 1 ≤ k) (h : RebR k N n A D Z at' s r) (h' : RebR k N n A D Z at' s' r') : s = s' ∧ r = r' := by
  rcases h with ⟨hZ, e1, e2⟩ | ⟨h1, h2, v, e, hd, h⟩
  · rcases h' with ⟨_, e1', e2'⟩ | ⟨h1', h2', _⟩
    · exact ⟨e1.trans e1'.symm, e2.trans e2'.symm⟩
    · exfalso; omega
  · rcases h' with ⟨hZ', _⟩ | ⟨_, _, v', e', hd', h'⟩
    · exfalso; omega
    · obtain ⟨rfl, rfl⟩ := dec_one hk1 hd hd'
      rcases h with ⟨n1, e1, e2⟩ | ⟨n1, e1, e2⟩
      · rcases h' with ⟨_, e1', e2'⟩ | ⟨n1', _⟩
        · exact ⟨e1.trans e1'.symm, e2.trans e2'.symm⟩
        · exact absurd n1' n1
      · rcases h' with ⟨n1', _⟩ | ⟨_, e1', e2'⟩
        · exact absurd n1 n1'
        · exact ⟨e1.trans e1'.symm, e2.trans e2'.symm⟩
end Go.Proofs.Ytmhhegkpkncebaa
