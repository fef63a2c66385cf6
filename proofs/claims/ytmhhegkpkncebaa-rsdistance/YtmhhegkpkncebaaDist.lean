/-
  TWO VALUES OF ONE LENGTH THAT DIFFER have many other fragments: the law's walk.
-/
import Derived.Test.YtmhhegkpkncebaaShort
namespace Go.Proofs.Ytmhhegkpkncebaa
open Go.RowKit

/-- Values of one length with k fragments the same, at other places, are the same. -/
theorem same_of_frags {k N : Nat} {v u : ByteArray} (hk1 : 1 ≤ k) (hk : k ≤ 8) (hN : N ≤ 12) (hs : v.size = u.size) (x : Nat → Nat) (hx : ∀ i, i < k → x i < N) (hd : ∀ i j, i < k → j < k → x i = x j → i = j) (he : ∀ i, i < k → fragS k v (x i) = fragS k u (x i)) : v = u := by
  have hI := Gf.cauchy_inj (k := k) (by omega) x (fun i hi => by have := hx i hi; omega) hd
  have hS := szk_le k v.size hk1
  refine str_ext hs (fun y hy => ?_)
  obtain ⟨S, eS⟩ : ∃ S, S = szk k v.size := ⟨_, rfl⟩
  have eS' : S = szk k u.size := by rw [eS, hs]
  rw [← eS] at hS
  have hS0 : 0 < S := by
    rcases Nat.eq_zero_or_pos S with h | h
    · rw [h, Nat.mul_zero] at hS; omega
    · exact h
  have hyS : y < k * S := by omega
  have hx0 : y % S < S := Nat.mod_lt _ hS0
  have hj : y / S < k := (Nat.div_lt_iff_lt_mul hS0).2 hyS
  have hyy : y / S * S + y % S = y := by rw [Nat.mul_comm]; exact Nat.div_add_mod y S
  have key := hI (fun j => bt v (j * S + y % S) ^^^ bt u (j * S + y % S)) (fun j => Gf.xor_lt (bt_lt _ _) (bt_lt _ _)) (fun i hi => by
    have e1 := bt_frag (k := k) (v := v) (i := x i) (x := y % S) (by rw [← eS]; exact hx0)
    have e2 := bt_frag (k := k) (v := u) (i := x i) (x := y % S) (by rw [← eS']; exact hx0)
    rw [← eS] at e1
    rw [← eS'] at e2
    rw [he i hi, e2] at e1
    show Gf.xs (fun l => Gf.mul (Gf.cau k (x i) l) (bt v (l * S + y % S) ^^^ bt u (l * S + y % S))) k = 0
    rw [Gf.xs_congr (g := fun l => Gf.mul (Gf.cau k (x i) l) (bt v (l * S + y % S)) ^^^ Gf.mul (Gf.cau k (x i) l) (bt u (l * S + y % S))) (fun l _ => Gf.mul_xor (Gf.cau_lt _ _ _) (bt_lt _ _) (bt_lt _ _)), Gf.xs_xor]
    show Gf.mv k (Gf.cau k) (fun j => bt v (j * S + y % S)) (x i) ^^^ Gf.mv k (Gf.cau k) (fun j => bt u (j * S + y % S)) (x i) = 0
    rw [← e1, Nat.xor_self]) (y / S) hj
  rw [hyy] at key
  exact Gf.xor_zero_eq key

/-- Where two values' fragments are the same. -/
def eqL (k : Nat) (v u : ByteArray) : Nat → List Nat
  | 0 => []
  | n + 1 => if fragS k v n = fragS k u n then eqL k v u n ++ [n] else eqL k v u n
theorem eqL_mem (k : Nat) (v u : ByteArray) : ∀ n, ∀ j ∈ eqL k v u n, j < n ∧ fragS k v j = fragS k u j
  | 0 => fun j hj => by simp [eqL] at hj
  | n + 1 => fun j hj => by
    have ih := eqL_mem k v u n
    unfold eqL at hj
    by_cases h : fragS k v n = fragS k u n
    · rw [if_pos h] at hj
      rcases List.mem_append.1 hj with h1 | h1
      · have := ih j h1; exact ⟨by omega, this.2⟩
      · have : j = n := by simpa using h1
        subst this; exact ⟨by omega, h⟩
    · rw [if_neg h] at hj; have := ih j hj; exact ⟨by omega, this.2⟩
theorem eqL_nodup (k : Nat) (v u : ByteArray) : ∀ n, (eqL k v u n).Nodup
  | 0 => List.nodup_nil
  | n + 1 => by
    have ih := eqL_nodup k v u n
    unfold eqL
    by_cases h : fragS k v n = fragS k u n
    · rw [if_pos h, List.nodup_append]
      refine ⟨ih, by simp, fun a ha b hb e => ?_⟩
      have h1 := (eqL_mem k v u n a ha).1
      have : b = n := by simpa using hb
      omega
    · rw [if_neg h]; exact ih
theorem eqL_few {k N n : Nat} {v u : ByteArray} (hk1 : 1 ≤ k) (hk : k ≤ 8) (hN : N ≤ 12) (hn : n ≤ N) (hs : v.size = u.size) (hne : v ≠ u) : (eqL k v u n).length < k := by
  rcases Nat.lt_or_ge (eqL k v u n).length k with h | h
  · exact h
  · exfalso
    refine hne (same_of_frags hk1 hk hN hs (fun i => (eqL k v u n).getD i 0) (fun i hi => ?_) (fun i j hi hj e => ?_) (fun i hi => ?_))
    · have := (eqL_mem k v u n _ (getD_mem (show i < (eqL k v u n).length by omega))).1; show (eqL k v u n).getD i 0 < N; omega
    · have e' : (eqL k v u n).getD i 0 = (eqL k v u n).getD j 0 := e
      rw [List.getD_eq_getElem?_getD, List.getD_eq_getElem?_getD, List.getElem?_eq_getElem (by omega), List.getElem?_eq_getElem (by omega)] at e'
      have hp := List.pairwise_iff_getElem.1 (eqL_nodup k v u n)
      rcases Nat.lt_trichotomy i j with h1 | h1 | h1
      · exact absurd e' (hp i j (by omega) (by omega) h1)
      · exact h1
      · exact absurd e'.symm (hp j i (by omega) (by omega) h1)
    · exact (eqL_mem k v u n _ (getD_mem (show i < (eqL k v u n).length by omega))).2

set_option maxHeartbeats 4000000 in
set_option maxRecDepth 100000 in
theorem dist_walk (a0 a1 : Int) (a2 : ByteArray) (a3 a4 : Int) (w4 : (Lit.int .u8 a4).wf = true) (w : World) :
    Calls Try.prog 8 #[.int .i64 a0, .int .i64 a1, .string a2, .int .i64 a3, .int .u8 a4] w fun e w' => e = .returned (.bool true) ∧ Below w.heap.size w w' := by
  obtain ⟨T, hT, rfl⟩ : ∃ T : Nat, T < 256 ∧ a4 = (T : Int) := by
    have := bounds_u8 w4
    exact ⟨a4.toNat, by omega, by omega⟩
  clear w4
  go_enter Try.func8, Try.ntmps8
  go_wp2_with fail
  refine (within_l a0 _ _ 1 8 rfl rfl (by decide) (by decide) _).mono ?_
  rintro e w1 ⟨⟨k, hk1, hk, rfl⟩, rfl⟩
  go_wp2_with fail
  refine (within_0 a1 _ _ (12 - k) rfl (by omega) (by omega) _).mono ?_
  rintro e w1 ⟨⟨m, hm, rfl⟩, rfl⟩
  go_wp2_with fail
  refine (new_any k m _ _ rfl rfl hk1 hk (by omega) _).mono ?_
  rintro e w1 ⟨b, rfl, hC1, hb1⟩
  have HC1 : Hid (IsCode w1 b k (k + m)) := hC1
  have HB1 : Hid (Below w.heap.size w w1) := hb1
  clear hC1 hb1
  go_wp2_with fail
  refine (short_any a2 100 _ rfl _).mono ?_
  rintro e w2 ⟨v, rfl, hv, rfl⟩
  by_cases hv0 : v = ⟨#[]⟩
  · subst hv0
    go_wp2_with fail
    refine (rruns_any _).mono ?_
    rintro e w2 ⟨rfl, hb2⟩
    have HB2 : Hid (Below w.heap.size w w2) := HB1.out.trans (hb2.mono HB1.out.size)
    clear hb2
    go_wp2_with fail
    go_ret
    exact ⟨rfl, HB2.out⟩
  have hvs : 0 < v.size := by
    rcases Nat.eq_zero_or_pos v.size with h | h
    · exact absurd (str_ext (t := ⟨#[]⟩) h (fun i hi => by omega)) hv0
    · exact h
  have hvn := str_empty hvs
  clear hv0
  by_cases hT0 : T = 0
  · subst hT0
    go_wp2_with fail
    refine (rruns_any _).mono ?_
    rintro e w2 ⟨rfl, hb2⟩
    have HB2 : Hid (Below w.heap.size w w2) := HB1.out.trans (hb2.mono HB1.out.size)
    clear hb2
    go_wp2_with fail
    go_ret
    exact ⟨rfl, HB2.out⟩
  have hTn : ((T : Int) == 0) = false := by simp; omega
  obtain ⟨w2, cap2, hrun, hby, hb2⟩ := conv_bytes w1 v
  obtain ⟨G, eG⟩ : ∃ G, G = w1.heap.size := ⟨_, rfl⟩
  rw [← eG] at hrun hby
  have EG : Hid (G = w1.heap.size) := eG
  have HBy : Hid (HasB w2 G (bt v) v.size) := hby
  have HB2 : Hid (Below w1.heap.size w1 w2) := hb2
  have hv1 : ((v.size : Int) - 1) = ((v.size - 1 : Nat) : Int) := by omega
  clear eG hb2 hby
  go_wp2_with fail
  refine (within_0 a3 _ _ (v.size - 1) rfl (by omega) (by omega) _).mono ?_
  rintro e w3 ⟨⟨y, hy, rfl⟩, rfl⟩
  have hyv : y < v.size := by omega
  have hyv' : (y : Int) < (v.size : Int) := by omega
  obtain ⟨d1, d2⟩ := HBy.out y hyv
  have hxor := xor_u8 (bt v y) T (bt_lt _ _) hT
  have H3 : Hid (HasB (w2.setCell ⟨G, y, none⟩ (.int .u8 ((bt v y ^^^ T : Nat) : Int))) G (fun x => if x = y then bt v y ^^^ T else bt v x) v.size) := HBy.out.set hyv
  have B3 : Hid (Below w1.heap.size w1 (w2.setCell ⟨G, y, none⟩ (.int .u8 ((bt v y ^^^ T : Nat) : Int)))) := HB2.out.setCell (by rw [EG.out]; exact Nat.le_refl _) _
  clear hrun HBy HB2
  go_wp2_with fail
  obtain ⟨u, eu⟩ : ∃ u, u = mkS (fun x => if x = y then bt v y ^^^ T else bt v x) v.size := ⟨_, rfl⟩
  have hus : u.size = v.size := by rw [eu, mkS_size]
  have HNE : Hid (v ≠ u) := fun e => by
    have h1 : bt u y = bt v y ^^^ T := by
      rw [eu, bt_mkS (f := fun x => if x = y then bt v y ^^^ T else bt v x) (by simp only [if_true]; exact Gf.xor_lt (bt_lt _ _) hT) hyv]; simp only [if_true]
    rw [← e] at h1
    have h2 : bt v y ^^^ (bt v y ^^^ T) = bt v y ^^^ bt v y := by rw [← h1]
    rw [← Nat.xor_assoc, Nat.xor_self, Nat.zero_xor] at h2
    exact hT0 h2
  obtain ⟨X, eX⟩ : ∃ X, X = w2.setCell ⟨G, y, none⟩ (.int .u8 ((bt v y ^^^ T : Nat) : Int)) := ⟨_, rfl⟩
  rw [← eX] at H3 B3 ⊢
  have hrow := H3.out.rowF
  have hconv := conv_str X.drew (some ⟨G, 0, none⟩) v.size cap2 _ hrow
  rw [← eu] at hconv
  have HCX : ∀ d, IsCode (X.drewN d) b k (k + m) := fun d => (HC1.out.up B3.out).drewN d
  have hrow' : RowF (X.drewN 1) (some ⟨G, 0, none⟩) (fun x => if x = y then bt v y ^^^ T else bt v x) v.size := hrow
  have hBX : Below w.heap.size w (X.drewN 1) := below_drewN (HB1.out.trans (B3.out.mono HB1.out.size)) 1
  have Eu : Hid (u = mkS (fun x => if x = y then bt v y ^^^ T else bt v x) v.size) := eu
  clear eX eu d1 d2 hxor H3 B3
  go_region_with (first
    | (go_at_call_of 10 (Value.string v); refine (encode_any b k (k + m) v hk1 hk (by omega) (by omega) _ (HCX 1)).mono ?_; rintro e w5 ⟨G5, rfl, hG5, O5, hb5⟩; have hc5 := conv_str w5 (some ⟨G, 0, none⟩) v.size cap2 _ (hrow'.below hb5); rw [← Eu.out] at hc5; have hC5 := (HCX 1).up hb5; have hB5 := hBX.trans (hb5.mono hBX.size); clear hb5)
    | (go_at_call_of 10 (Value.string u); refine (encode_any b k (k + m) u hk1 hk (by omega) (by omega) _ hC5).mono ?_; rintro e w6 ⟨G6, rfl, hG6, O6, hb6⟩; have O5' := O5.up hb6; have hB6 := hB5.trans (hb6.mono hB5.size); clear hb6 O5))
  all_goals
    have HP : Hid (OwnS w6 G5 (k + m) (fragS k v) (k + m)) := O5'
    have HQ : Hid (OwnS w6 G6 (k + m) (fragS k u) (k + m)) := O6
    have HB6 : Hid (Below w.heap.size w w6) := hB6
    clear O5' O6 hB6 hconv hc5 HCX hrow' hBX hrow hC5 hB5
    go_wp2_with fail
    go_loopw [19, 20] (fun x i wr => ∃ t c q : Nat, t ≤ k + m ∧ i = .int .i64 (t : Int) ∧ x = .int .i64 (c : Int) ∧ Hid (c + (eqL k v u t).length = t) ∧ c ≤ t ∧ Hid (wr = w6.drewN q)) (fun _ i _ => k + m - (intOf i).toNat)
    case atStart => exact ⟨0, 0, 0, by omega, rfl, rfl, rfl, by omega, rfl⟩
    case round =>
      obtain ⟨t, c, q, ht, rfl, rfl, HL, hct, HW⟩ := hrel
      by_cases hlt : t < k + m
      · have hi1 : (t : Int) < (k : Int) + (m : Int) := by omega
        have d1 : wr.cell? ⟨G5, t, none⟩ = some (.string (fragS k v t)) := by rw [HW.out]; exact ownS_at HP.out hlt
        have d2 : wr.cell? ⟨G6, t, none⟩ = some (.string (fragS k u t)) := by rw [HW.out]; exact ownS_at HQ.out hlt
        have hcmp := str_beq (fragS k v t) (fragS k u t)
        by_cases hE : fragS k v t = fragS k u t
        · have H2 : Hid (c + (eqL k v u (t + 1)).length = t + 1) := by
            show c + (if _ then _ else _ : List Nat).length = t + 1
            rw [if_pos hE, List.length_append]
            have := HL.out
            show c + (_ + 1) = t + 1
            omega
          rw [decide_eq_true hE] at hcmp
          clear hE HL
          go_wp2_with fail
          go_quiet (fail)
          go_wp2_with fail
          exact ⟨⟨t + 1, c, q + nq, by omega, by go_num, rfl, H2, by omega, by show _ = _; rw [HW.out, World.drewN_drewN]⟩, by simp [intOf]; omega⟩
        · have H2 : Hid (c + 1 + (eqL k v u (t + 1)).length = t + 1) := by
            show c + 1 + (if _ then _ else _ : List Nat).length = t + 1
            rw [if_neg hE]
            have := HL.out
            omega
          rw [decide_eq_false hE] at hcmp
          clear hE HL
          go_wp2_with fail
          go_quiet (fail)
          go_wp2_with fail
          exact ⟨⟨t + 1, c + 1, q + nq, by omega, by go_num, by go_num, H2, by omega, by show _ = _; rw [HW.out, World.drewN_drewN]⟩, by simp [intOf]; omega⟩
      · have htk : t = k + m := by omega
        have i1 : decide ((t : Int) < (k : Int) + (m : Int)) = false := by simp; omega
        have hfew := eqL_few (k := k) (N := k + m) (n := t) hk1 hk (by omega) (by omega) hus.symm HNE.out
        have hc2 : m + 1 ≤ c := by have := HL.out; omega
        have hc3 : (m : Int) + 1 ≤ (c : Int) := by omega
        have HB7 : Hid (Below w.heap.size w wr) := by rw [HW.out]; exact below_drewN HB6.out q
        clear HL hfew
        go_wp2_with fail
        refine (rruns_any _).mono ?_
        rintro e w8 ⟨rfl, hb8⟩
        have HB8 : Hid (Below w.heap.size w w8) := HB7.out.trans (hb8.mono HB7.out.size)
        clear hb8
        go_wp2_with fail
        go_ret
        exact ⟨rfl, HB8.out⟩
end Go.Proofs.Ytmhhegkpkncebaa
