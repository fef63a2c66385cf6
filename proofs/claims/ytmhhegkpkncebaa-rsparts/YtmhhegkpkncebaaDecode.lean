/-
  DECODE of the program: what fragments tell.
-/
import Derived.Test.YtmhhegkpkncebaaSolved
namespace Go.Proofs.Ytmhhegkpkncebaa
open Go.RowKit

theorem fst_inj (A : Nat → Int) (k : Nat) : ∀ n i j, i < (fst A k n).length → j < (fst A k n).length → A ((fst A k n).getD i 0) = A ((fst A k n).getD j 0) → i = j
  | 0, i, j, hi, _, _ => absurd hi (Nat.not_lt_zero _)
  | n + 1, i, j, hi, hj, e => by
    have ih := fst_inj A k n
    by_cases h : (fst A k n).length = k ∨ ∃ j ∈ fst A k n, A j = A n
    · rw [fst_old h] at hi hj e; exact ih i j hi hj e
    · have hn : ∀ j ∈ fst A k n, A j ≠ A n := fun j hj e => h (Or.inr ⟨j, hj, e⟩)
      rw [fst_new (fun e => h (Or.inl e)) hn] at hi hj e
      rw [List.length_append] at hi hj
      have hi' : i < (fst A k n).length + 1 := hi
      have hj' : j < (fst A k n).length + 1 := hj
      have g1 : ∀ s, s < (fst A k n).length → (fst A k n ++ [n]).getD s 0 = (fst A k n).getD s 0 := fun s hs => by
        rw [List.getD_eq_getElem?_getD, List.getD_eq_getElem?_getD, List.getElem?_append_left hs]
      have g2 : (fst A k n ++ [n]).getD (fst A k n).length 0 = n := by
        rw [List.getD_eq_getElem?_getD, List.getElem?_append_right (Nat.le_refl _), Nat.sub_self]; rfl
      by_cases ei : i = (fst A k n).length
      · by_cases ej : j = (fst A k n).length
        · omega
        · rw [ei, g2, g1 j (by omega)] at e
          exact absurd e.symm (hn _ (getD_mem (by omega)))
      · by_cases ej : j = (fst A k n).length
        · rw [ej, g2, g1 i (by omega)] at e
          exact absurd e (hn _ (getD_mem (by omega)))
        · rw [g1 i (by omega), g1 j (by omega)] at e
          exact ih i j (by omega) (by omega) e

/-- The places and the data of the first k. -/
def pX (A : Nat → Int) (k n i : Nat) : Nat := (A ((fst A k n).getD i 0)).toNat
def pD (A : Nat → Int) (D : Nat → ByteArray) (k n i : Nat) : ByteArray := D ((fst A k n).getD i 0)
/-- The inverse of the rows at these places. -/
def IsInv (k : Nat) (x : Nat → Nat) (V : Nat → Nat → Nat) : Prop :=
  Gf.B8 V ∧ Gf.EqN k (Gf.mm k V (fun i j => Gf.cau k (x i) j)) Gf.idm ∧ Gf.EqN k (Gf.mm k (fun i j => Gf.cau k (x i) j) V) Gf.idm
/-- What Decode answers. -/
def DecR (k N n : Nat) (A : Nat → Int) (D : Nat → ByteArray) (Z : Int) (s : ByteArray) (r : Int) : Prop :=
  ((Z < 0 ∨ 1048576 < Z) ∧ s = ⟨#[]⟩ ∧ r = 1) ∨ ∃ z : Nat, Z = (z : Int) ∧ z ≤ 1048576 ∧
    (((∃ i, i < n ∧ ¬ OkP k N z (A i) (D i)) ∧ s = ⟨#[]⟩ ∧ r = 4) ∨
      ((∀ i, i < n → OkP k N z (A i) (D i)) ∧ (fst A k n).length < k ∧ s = ⟨#[]⟩ ∧ r = 3) ∨
      ((∀ i, i < n → OkP k N z (A i) (D i)) ∧ (fst A k n).length = k ∧ ∃ V, IsInv k (pX A k n) V ∧
        (((∃ y, z ≤ y ∧ y < k * szk k z ∧ solF V (pD A D k n) k (szk k z) y ≠ 0) ∧ s = ⟨#[]⟩ ∧ r = 4) ∨
          ((∀ y, z ≤ y → y < k * szk k z → solF V (pD A D k n) k (szk k z) y = 0) ∧ s = mkS (solF V (pD A D k n) k (szk k z)) z ∧ r = 0))))

set_option maxHeartbeats 2000000 in
set_option maxRecDepth 100000 in
theorem decode_any (b k N n c : Nat) (Z : Int) (a : Option Addr) (A : Nat → Int) (D : Nat → ByteArray) (hk1 : 1 ≤ k) (hk : k ≤ 8) (hN : N ≤ 12) (hn : n ≤ 4194304) (w : World) (hC : IsCode w b k N) (hp : PartF w a A D n) :
    Calls Try.prog 11 #[.pointer (some ⟨b, 0, none⟩), .int .i64 Z, .slice a n c] w fun e w' => ∃ s r, e = .returned (.tuple #[.string s, .int .i64 r]) ∧ DecR k N n A D Z s r ∧ Below w.heap.size w w' := by
  by_cases h1 : Z < 0
  · go_enter Try.func11, Try.ntmps11
    go_wp2_with fail
    go_ret2
    exact ⟨_, _, rfl, Or.inl ⟨Or.inl h1, rfl, rfl⟩, Below.refl _ _⟩
  have i1 : decide (Z < 0) = false := by simp; omega
  by_cases h2 : 1048576 < Z
  · go_enter Try.func11, Try.ntmps11
    go_wp2_with fail
    go_ret2
    exact ⟨_, _, rfl, Or.inl ⟨Or.inr h2, rfl, rfl⟩, Below.refl _ _⟩
  have i2 : decide (1048576 < Z) = false := by simp; omega
  obtain ⟨z, rfl⟩ : ∃ z : Nat, Z = (z : Int) := ⟨Z.toNat, by omega⟩
  have hz : z ≤ 1048576 := by omega
  clear h1 h2
  have HC : Hid (IsCode w b k N) := hC
  have HP : Hid (PartF w a A D n) := hp
  clear hC hp
  go_enter Try.func11, Try.ntmps11
  go_wp2_with fail
  refine (inform_any b k N z n c _ rfl a A D hk1 hk hz hn _ HC.out HP.out).mono ?_
  rintro e w1 ⟨h3, hb1⟩
  have HB1 : Hid (Below w.heap.size w w1) := hb1
  clear hb1
  rcases h3 with ⟨rfl, hok⟩ | ⟨rfl, hno⟩
  · have HOK : Hid (∀ i, i < n → OkP k N z (A i) (D i)) := hok
    clear hok
    go_wp2_with fail
    refine (first_any b k N n c a A D hk1 hk hn _ (HC.out.up HB1.out) (HP.out.up HB1.out)).mono ?_
    rintro e w2 ⟨g, cap, rfl, hpf, hb2⟩
    have HPF : Hid (PartF w2 (some ⟨g, 0, none⟩) (fun i => A ((fst A k n).getD i 0)) (fun i => D ((fst A k n).getD i 0)) (fst A k n).length) := hpf
    have HB2 : Hid (Below w.heap.size w w2) := HB1.out.trans (hb2.mono HB1.out.size)
    have hle := fst_len A k n
    obtain ⟨m, em⟩ : ∃ m, m = (fst A k n).length := ⟨_, rfl⟩
    rw [← em] at hle ⊢
    have EM : Hid (m = (fst A k n).length) := em
    have c0 := (HC.out.up HB2.out).kcell
    clear hpf hb2 em
    by_cases hmk : m < k
    · have i3 : (m : Int) < (k : Int) := by omega
      go_wp2_with fail
      go_ret2
      exact ⟨_, _, rfl, Or.inr ⟨z, rfl, hz, Or.inr (Or.inl ⟨HOK.out, by rw [← EM.out]; exact hmk, rfl, rfl⟩)⟩, HB2.out⟩
    · have hmk' : m = k := by omega
      subst hmk'
      have i3 : decide ((m : Int) < (m : Int)) = false := by simp
      have hok2 : ∀ i, i < m → OkP m N z (A ((fst A m n).getD i 0)) (D ((fst A m n).getD i 0)) := fun i hi => HOK.out _ (fst_lt A m n _ (getD_mem (by rw [← EM.out]; exact hi)))
      have HPF2 : Hid (PartF w2 (some ⟨g, 0, none⟩) (fun i => ((pX A m n i : Nat) : Int)) (pD A D m n) m) := by
        rcases HPF.out with h | ⟨p, o, e, h⟩
        · exfalso; have := EM.out; omega
        · refine Or.inr ⟨p, o, e, fun i hi => ?_⟩
          have h1 := h i (by rw [← EM.out]; exact hi)
          refine ⟨?_, h1.2⟩
          rw [h1.1]
          have := (hok2 i hi).1
          show _ = some (Value.int .i64 ((pX A m n i : Nat) : Int))
          unfold pX
          rw [Int.toNat_of_nonneg this]
      have HX : Hid (∀ i, i < m → pX A m n i < N) := fun i hi => by
        have := hok2 i hi
        unfold pX; have h1 := this.1; have h2 := this.2.1; omega
      have Hd : Hid (∀ i j, i < m → j < m → pX A m n i = pX A m n j → i = j) := fun i j hi hj e => by
        refine fst_inj A m n i j (by rw [← EM.out]; exact hi) (by rw [← EM.out]; exact hj) ?_
        have h1 := (hok2 i hi).1
        have h2 := (hok2 j hj).1
        unfold pX at e
        omega
      have HDD : Hid (∀ i, i < m → (pD A D m n i).size = szk m z) := fun i hi => (hok2 i hi).2.2
      have hS := szk_small hk1 hz
      have hzl := (szk_le m z hk1).1
      obtain ⟨L, eL⟩ : ∃ L, L = szk m z := ⟨_, rfl⟩
      rw [← eL] at hS hzl
      have EL : Hid (L = szk m z) := eL
      clear hok2 HPF eL
      go_wp2_with fail
      refine (solved_any b m N L cap (some ⟨g, 0, none⟩) (pX A m n) (pD A D m n) hk1 hk hN hS HX.out Hd.out (by rw [EL.out]; exact HDD.out) _ (HC.out.up HB2.out) HPF2.out).mono ?_
      rintro e w3 ⟨V, a3, cap3, rfl, hcap, hrow, hv1, hv2, hv3, hb3⟩
      obtain ⟨M, eM⟩ : ∃ M, M = m * L := ⟨_, rfl⟩
      obtain ⟨F, eF⟩ : ∃ F, F = solF V (pD A D m n) m L := ⟨_, rfl⟩
      rw [← eM] at hcap hzl hrow ⊢
      rw [← eF] at hrow
      have EMM : Hid (M = m * L) := eM
      have EF : Hid (F = solF V (pD A D m n) m L) := eF
      have HIV : Hid (IsInv m (pX A m n) V) := ⟨hv1, hv2, hv3⟩
      have HB3 : Hid (Below w.heap.size w w3) := HB2.out.trans (hb3.mono HB2.out.size)
      have hM8 : M ≤ 8388664 := by
        have : m * L ≤ 8 * L := Nat.mul_le_mul_right L hk
        rw [eM]; omega
      have hlo := slice_lo a3 M cap3 z hzl
      have hhi := slice_hi a3 M cap3 z (by omega)
      have HCut : Hid (RowF w3 (sl a3 z cap3) (fun i => F (z + i)) (M - z)) := hrow.cut z cap3 hcap
      have hconv := conv_str w3 (sl a3 0 cap3) z cap3 F (hrow.head z cap3 hzl hcap)
      obtain ⟨R, eR⟩ : ∃ R, R = M - z := ⟨_, rfl⟩
      rw [← eR] at hlo HCut
      have ER : Hid (R = M - z) := eR
      have hR8 : R ≤ 8388664 := by omega
      obtain ⟨a4, ea4⟩ : ∃ a4, a4 = sl a3 z cap3 := ⟨_, rfl⟩
      rw [← ea4] at hlo HCut
      obtain ⟨a5, ea5⟩ : ∃ a5, a5 = sl a3 0 cap3 := ⟨_, rfl⟩
      rw [← ea5] at hhi hconv
      clear eM eF hv1 hv2 hv3 hb3 hrow HPF2 HX Hd HDD eR ea4 ea5 c0 HB2
      go_wp2_with fail
      go_loopw [40] (fun i wr => ∃ t : Nat, t ≤ R ∧ i = .int .i64 (t : Int) ∧ Hid (∀ y, y < t → F (z + y) = 0) ∧ wr = w3) (fun i _ => R - (intOf i).toNat)
      case atStart => exact ⟨0, by omega, rfl, fun y hy => by omega, rfl⟩
      case round =>
        obtain ⟨t, ht, rfl, HZ, rfl⟩ := hrel
        by_cases hlt : t < R
        · have hi1 : (t : Int) < (R : Int) := by omega
          obtain ⟨p, o, rfl, q1⟩ : ∃ p off, a4 = some ⟨p, off, none⟩ ∧ ∀ i, i < R → wr.cell? ⟨p, off + i, none⟩ = some (.int .u8 ((F (z + i) : Nat) : Int)) := by
            rcases HCut.out with r | r
            · exfalso; omega
            · exact r
          have d1 := q1 t hlt
          clear q1 hlo hhi hconv
          by_cases hF : F (z + t) = 0
          · have i4 : (((F (z + t) : Nat) : Int) != 0) = false := by simp; omega
            have HZ2 : Hid (∀ y, y < t + 1 → F (z + y) = 0) := fun y hy => by
              by_cases e : y = t
              · rw [e]; exact hF
              · exact HZ.out y (by omega)
            clear HZ hF
            have K1 : t + 1 ≤ R := hlt
            go_wp2_with fail
            exact ⟨⟨t + 1, K1, by go_num, HZ2, trivial⟩, by simp [intOf]; omega⟩
          · have i4 : (((F (z + t) : Nat) : Int) != 0) = true := by simp; omega
            have HF : Hid (F (z + t) ≠ 0) := hF
            clear hF
            go_wp2_with fail
            go_ret2
            refine ⟨_, _, rfl, Or.inr ⟨z, rfl, hz, Or.inr (Or.inr ⟨HOK.out, EM.out.symm, V, HIV.out, Or.inl ⟨⟨z + t, by omega, ?_, ?_⟩, rfl, rfl⟩⟩)⟩, HB3.out⟩
            · rw [← EL.out, ← EMM.out]; have := ER.out; omega
            · rw [← EL.out, ← EF.out]; exact HF.out
        · have htk : t = R := by omega
          subst htk
          have i4 : decide ((t : Int) < (t : Int)) = false := by simp
          clear hlo
          go_wp2_with fail
          go_ret2
          refine ⟨_, _, rfl, Or.inr ⟨z, rfl, hz, Or.inr (Or.inr ⟨HOK.out, EM.out.symm, V, HIV.out, Or.inr ⟨fun y h1 h2 => ?_, ?_, rfl⟩⟩)⟩, HB3.out⟩
          · rw [← EL.out, ← EMM.out] at h2
            rw [← EL.out, ← EF.out]
            have := HZ.out (y - z) (by have := ER.out; omega)
            rwa [show z + (y - z) = y by omega] at this
          · rw [← EL.out, ← EF.out]
  · have HNO : Hid (∃ i, i < n ∧ ¬ OkP k N z (A i) (D i)) := hno
    clear hno
    go_wp2_with fail
    go_ret2
    exact ⟨_, _, rfl, Or.inr ⟨z, rfl, hz, Or.inl ⟨HNO.out, rfl, rfl⟩⟩, HB1.out⟩
end Go.Proofs.Ytmhhegkpkncebaa
