/-
  WORDSNUMBERS: digits, plain and walked.
-/
import Derived.Test.YtiijibambjhipaaDoorFmt
import Derived.Test.YtiijibambjhipaaDoorRuns
import Derived.Test.YtiijibambjhipaaDoorWit
namespace Go.Proofs.YtiijibambjhipaaDoor
open Go.RowKit Go.Lib

theorem ng_append (most : Nat) : ∀ (l : B) (a : Nat) (r : B), ng most a (l ++ r) = (ng most a l).bind fun v => ng most v r
  | [], a, r => rfl
  | c :: l, a, r => by
    rw [List.cons_append, ng, ng]
    split
    · exact ng_append most l _ r
    · rfl
theorem dg_toNat {k : Nat} (h : k < 10) : (UInt8.ofNat (48 + k)).toNat = 48 + k := by
  rw [UInt8.toNat_ofNat']; omega
theorem ng_dec (most : Nat) (u : Nat) : ng most 0 (decDigits u) = if u ≤ most then some u else none := by
  induction u using Nat.strongRecOn with
  | _ u ih =>
    by_cases h : u < 10
    · rw [decDigits, dif_pos h, ng, dg_toNat h]
      by_cases h2 : u ≤ most
      · rw [if_pos ⟨by omega, by omega, by omega⟩, if_pos h2, ng]
        congr 1; omega
      · rw [if_neg (by omega), if_neg h2]
    · rw [decDigits, dif_neg h, ng_append, ih (u / 10) (by omega)]
      by_cases h2 : u / 10 ≤ most
      · rw [if_pos h2]
        show ng most (u / 10) _ = _
        rw [ng, dg_toNat (Nat.mod_lt _ (by omega))]
        by_cases h3 : u ≤ most
        · rw [if_pos ⟨by omega, by omega, by omega⟩, if_pos h3, ng]
          congr 1; omega
        · rw [if_neg (by omega), if_neg h3]
      · rw [if_neg h2, if_neg (by omega)]; rfl
theorem ng_zeros (most : Nat) : ∀ (k : Nat) (r : B), ng most 0 (List.replicate k 48 ++ r) = ng most 0 r
  | 0, r => rfl
  | k + 1, r => by
    rw [List.replicate_succ, List.cons_append, ng, if_pos ⟨by decide, by decide, by simp⟩]
    exact ng_zeros most k r
theorem dec_len {u : Nat} (h : u < 18446744073709551616) : 1 ≤ (decDigits u).length ∧ (decDigits u).length ≤ 20 := by
  rw [decDigits_length]
  by_cases h1 : 1 ≤ u
  · have := numDigits_eq u h1 h
    have h0 : 1 ≤ nDigits u := by rw [nDigits]; split <;> omega
    split at this <;> omega
  · rw [nDigits_small (by omega)]; omega
theorem num_dec {u : Nat} (h : u < 18446744073709551616) (most k : Nat) (hk : k + (decDigits u).length ≤ 20) : num most (List.replicate k 48 ++ decDigits u) = if u ≤ most then some u else none := by
  have := dec_len h
  unfold num
  rw [if_pos (by rw [List.length_append, List.length_replicate]; omega), ng_zeros, ng_dec]
theorem num_long (most : Nat) (l : B) (h : 20 < l.length) : num most l = none := if_neg (by omega)
/-- So many noughts out of a constant. -/
theorem zeros20 (k : Nat) (hk : k ≤ 20) : (⟨#[48, 48, 48, 48, 48, 48, 48, 48, 48, 48, 48, 48, 48, 48, 48, 48, 48, 48, 48, 48]⟩ : ByteArray).extract 0 k = S (List.replicate k 48) := by
  apply L_inj
  rw [L_extract, L_S]
  have e : L ⟨#[48, 48, 48, 48, 48, 48, 48, 48, 48, 48, 48, 48, 48, 48, 48, 48, 48, 48, 48, 48]⟩ = List.replicate 20 48 := rfl
  rw [e, List.take_replicate, Nat.min_eq_left hk]; rfl
theorem zeros22 (k : Nat) (hk : k ≤ 22) : (⟨#[48, 48, 48, 48, 48, 48, 48, 48, 48, 48, 48, 48, 48, 48, 48, 48, 48, 48, 48, 48, 48, 48]⟩ : ByteArray).extract 0 k = S (List.replicate k 48) := by
  apply L_inj
  rw [L_extract, L_S]
  have e : L ⟨#[48, 48, 48, 48, 48, 48, 48, 48, 48, 48, 48, 48, 48, 48, 48, 48, 48, 48, 48, 48, 48, 48]⟩ = List.replicate 22 48 := rfl
  rw [e, List.take_replicate, Nat.min_eq_left hk]; rfl
theorem S_app (a b : B) : S a ++ S b = S (a ++ b) := L_inj (by rw [L_append]; rfl)
theorem number_c {s : ByteArray} {most v : Nat} {b : Bool} (M V : Int) (hm : most < 18446744073709551616) (hM : ((most : Nat) : Int) = M) (h1 : nv most (L s) = v) (h2 : nb most (L s) = b) (hV : ((v : Nat) : Int) = V) (w : World) :
    Calls Tryd.prog 14 #[.string s, .int .u64 M] w fun e w' => e = .returned (.tuple #[.int .u64 V, .bool b]) ∧ w = w' := by
  subst hM h1 h2 hV
  exact number_any s most hm w
set_option maxHeartbeats 400000 in
set_option maxRecDepth 100000 in
theorem numbers_walk (u : Nat) (k : Int) (hu : u < 18446744073709551616) (w : World) (ht : HasTab w) (htab : TabIs Tryd.prog w "internal/strconv.uint64pow10" .u64 pow10Tab) :
    Calls Tryd.prog 6 #[.int .u64 (u : Int), .int .i64 k] w fun e w' => e = .returned (.bool true) ∧ Below w.heap.size w w' := by
  obtain ⟨l1, l2⟩ := dec_len hu
  have HF := fmt_any u hu w htab
  have e0 : ∀ most, num most (decDigits u) = if u ≤ most then some u else none := fun most => by
    have := num_dec hu most 0 (by omega)
    simpa using this
  obtain ⟨a, ha⟩ : ∃ a : Int, ((u : Nat) : Int) = a := ⟨_, rfl⟩
  obtain ⟨D, hD⟩ : ∃ D, D = decDigits u := ⟨_, rfl⟩
  rw [ha] at HF ⊢
  rw [← hD] at HF l1 l2 e0
  have N1 := number_c (s := S D) (most := u) (v := u) (b := true) a a hu ha (by rw [L_S]; unfold nv; rw [e0, if_pos (Nat.le_refl _)]; rfl) (by rw [L_S]; unfold nb; rw [e0, if_pos (Nat.le_refl _)]; rfl) ha
  have a0 : 0 ≤ a := by omega
  have a1 : a < 18446744073709551616 := by omega
  obtain ⟨m, hm0, hmb, hm1⟩ : ∃ m : Nat, ((m : Nat) : Int) = IntKind.u64.wrap (a - 1) ∧ m < 18446744073709551616 ∧ (u ≠ 0 → m = u - 1) := by
    by_cases h0 : u = 0
    · exact ⟨18446744073709551615, by rw [← ha, h0, IntKind.wrap_u64]; omega, by omega, fun h => absurd h0 h⟩
    · exact ⟨u - 1, by rw [← ha, IntKind.wrap_u64]; omega, by omega, fun _ => rfl⟩
  obtain ⟨M, hM⟩ : ∃ M : Int, IntKind.u64.wrap (a - 1) = M := ⟨_, rfl⟩
  rw [hM] at hm0
  obtain ⟨v2, hv2⟩ : ∃ v2 : Nat, nv m (L (S D)) = v2 := ⟨_, rfl⟩
  obtain ⟨b2, hb2⟩ : ∃ b2 : Bool, nb m (L (S D)) = b2 := ⟨_, rfl⟩
  obtain ⟨V2, hV2⟩ : ∃ V2 : Int, ((v2 : Nat) : Int) = V2 := ⟨_, rfl⟩
  have N2 := number_c (s := S D) M V2 hmb hm0 hv2 hb2 hV2
  have hb : u ≠ 0 → b2 = false := fun h0 => by
    rw [← hb2, L_S, hm1 h0]; unfold nb; rw [e0, if_neg (by omega)]; rfl
  have sz := S_size D
  obtain ⟨d, hd⟩ : ∃ d : Nat, D.length = d := ⟨_, rfl⟩
  rw [hd] at l1 l2 sz
  obtain ⟨wb1, wb2⟩ := wi_bd k 0 (20 - (d : Int)) (by omega)
  have WI := within_any k 0 (20 - (d : Int)) (by omega) (by omega) (by omega)
  obtain ⟨j, hj⟩ : ∃ j : Nat, wi k 0 (20 - (d : Int)) = (j : Int) := ⟨(wi k 0 (20 - (d : Int))).toNat, by omega⟩
  rw [hj] at WI wb1 wb2
  have jb : j + d ≤ 20 := by omega
  have z1 := zeros20 j (by omega)
  have z2 : (⟨#[48, 48, 48, 48, 48, 48, 48, 48, 48, 48, 48, 48, 48, 48, 48, 48, 48, 48, 48, 48, 48, 48]⟩ : ByteArray).extract 0 (21 - d) = S (List.replicate (21 - d) 48) := zeros22 (21 - d) (by omega)
  have t1 := S_app (List.replicate j 48) D
  have t2 := S_app (List.replicate (21 - d) 48) D
  have N3 := number_c (s := S (List.replicate j 48 ++ D)) (most := 18446744073709551615) (v := u) (b := true) 18446744073709551615 a (by omega) (by omega) (by rw [L_S, hD]; unfold nv; rw [num_dec hu _ j (by rw [← hD, hd]; exact jb), if_pos (by omega)]; rfl) (by rw [L_S, hD]; unfold nb; rw [num_dec hu _ j (by rw [← hD, hd]; exact jb), if_pos (by omega)]; rfl) ha
  have q4 : num 18446744073709551615 (L (S (List.replicate (21 - d) 48 ++ D))) = none := by
    rw [L_S]; exact num_long _ _ (by rw [List.length_append, List.length_replicate, hd]; omega)
  have N4 := number_c (s := S (List.replicate (21 - d) 48 ++ D)) (most := 18446744073709551615) (v := 0) (b := false) 18446744073709551615 0 (by omega) (by omega) (by unfold nv; rw [q4]; rfl) (by unfold nb; rw [q4]; rfl) rfl
  have HT := Lib.hid ht
  have HA := Lib.hid ha
  have HBB := Lib.hid hb
  have z3 : (S (List.replicate j 48)).size = j := by rw [S_size, List.length_replicate]
  have z4 : (S (List.replicate (21 - d) 48)).size = 21 - d := by rw [S_size, List.length_replicate]
  generalize S (List.replicate j 48 ++ D) = T1 at *
  generalize S (List.replicate (21 - d) 48 ++ D) = T2 at *
  generalize S (List.replicate j 48) = Y1 at *
  generalize S (List.replicate (21 - d) 48) = Y2 at *
  generalize S D = X at *
  have q5 : ¬ (a = 0) → b2 = false := fun h => hb (fun e => h (by rw [← ha, e]; rfl))
  have HQ5 := Lib.hid q5
  clear ht htab l1 e0 hD ha hb hm0 hmb hm1 hv2 hb2 hV2 hd hj wb1 wb2 hu q4 q5
  go_enter Tryd.func6, Tryd.ntmps6
  go_wp2_with fail
  refine HF.mono ?_
  rintro e w1 ⟨rfl, b1⟩
  have HT1 := Lib.hid (HT.out.below b1)
  have HB1 := Lib.hid b1
  clear b1 HT HF
  go_wp2_with fail
  refine (N1 _).mono ?_
  rintro e w' ⟨rfl, rfl⟩
  by_cases hz : a = 0
  · subst hz
    rw [show IntKind.u64.wrap (0 - 1) = 18446744073709551615 from by rw [IntKind.wrap_u64]; omega] at hM
    subst hM
    go_wp2_with fail
    rw [show IntKind.u64.wrap (-1) = 18446744073709551615 from by rw [IntKind.wrap_u64]; omega]
    refine (N2 _).mono ?_
    rintro e w' ⟨rfl, rfl⟩
    go_wp2_with fail
    refine (WI _).mono ?_
    rintro e w' ⟨rfl, rfl⟩
    go_wp2_with fail
    refine (N3 _).mono ?_
    rintro e w' ⟨rfl, rfl⟩
    go_wp2_with fail
    refine (N4 _).mono ?_
    rintro e w' ⟨rfl, rfl⟩
    go_wp2_with fail
    refine (runs_any _ HT1.out).mono ?_
    rintro e w2 ⟨rfl, b2⟩
    have HB2 := Lib.hid (HB1.out.trans (b2.mono HB1.out.size))
    clear b2
    go_wp2_with fail
    go_ret
    exact ⟨rfl, HB2.out⟩
  · have h1 : 1 ≤ a := by omega
    rw [show IntKind.u64.wrap (a - 1) = a - 1 from by rw [IntKind.wrap_u64]; omega] at hM
    subst hM
    have hb2f := HQ5.out hz
    subst hb2f
    go_wp2_with fail
    refine (N2 _).mono ?_
    rintro e w' ⟨rfl, rfl⟩
    go_wp2_with fail
    refine (WI _).mono ?_
    rintro e w' ⟨rfl, rfl⟩
    go_wp2_with fail
    refine (N3 _).mono ?_
    rintro e w' ⟨rfl, rfl⟩
    go_wp2_with fail
    refine (N4 _).mono ?_
    rintro e w' ⟨rfl, rfl⟩
    go_wp2_with fail
    refine (runs_any _ HT1.out).mono ?_
    rintro e w2 ⟨rfl, b2⟩
    have HB2 := Lib.hid (HB1.out.trans (b2.mono HB1.out.size))
    clear b2
    go_wp2_with fail
    go_ret
    exact ⟨rfl, HB2.out⟩
end Go.Proofs.YtiijibambjhipaaDoor
