/-
  SAME that says no; PACKONE walked: bytes that a reader takes as a number, whole, are the ones that the number has; two numbers have the same just if they are the same.
-/
import Derived.Test.YtihghccjcicbeaaRuns
namespace Go.Proofs.Ytihghccjcicbeaa
open Go.RowKit

theorem least_diff (f g : Nat → Nat) : ∀ n, (∃ i, i < n ∧ f i ≠ g i) → ∃ q, q < n ∧ f q ≠ g q ∧ ∀ i, i < q → f i = g i := by
  intro n
  induction n with
  | zero => rintro ⟨i, h, _⟩; omega
  | succ n ih =>
    rintro ⟨i, h1, h2⟩
    by_cases h : ∃ i, i < n ∧ f i ≠ g i
    · obtain ⟨q, h3, h4, h5⟩ := ih h
      exact ⟨q, by omega, h4, h5⟩
    · have : i = n := by
        by_cases e : i = n
        · exact e
        · exact absurd ⟨i, by omega, h2⟩ h
      subst this
      refine ⟨i, by omega, h2, fun j hj => ?_⟩
      by_cases e : f j = g j
      · exact e
      · exact absurd ⟨j, hj, e⟩ h
set_option maxHeartbeats 1000000 in
theorem same_no (a a' : Option Addr) (n n' c c' : Nat) (f g : Nat → Nat) (hn : n ≤ 140737488355328) (hfg : n ≠ n' ∨ ∃ i, i < n ∧ f i ≠ g i) (w : World) (ra : RowF w a f n) (rb : RowF w a' g n') :
    Calls Try.prog 8 #[.slice a n c, .slice a' n' c'] w fun e w' => e = .returned (.bool false) ∧ ∃ m, w' = w.drewN m := by
  by_cases hne : n = n'
  · subst hne
    obtain ⟨q, hq1, hq2, hq3⟩ := least_diff f g n (hfg.resolve_left (fun h => h rfl))
    have ne : ((n : Int) != (n : Int)) = false := by simp
    obtain ⟨p, o, rfl, q1⟩ : ∃ p off, a = some ⟨p, off, none⟩ ∧ ∀ i, i < n → w.cell? ⟨p, off + i, none⟩ = some (.int .u8 ((f i : Nat) : Int)) := by
      rcases ra with r | r
      · exfalso; omega
      · exact r
    obtain ⟨p', o', rfl, q2⟩ : ∃ p off, a' = some ⟨p, off, none⟩ ∧ ∀ i, i < n → w.cell? ⟨p, off + i, none⟩ = some (.int .u8 ((g i : Nat) : Int)) := by
      rcases rb with r | r
      · exfalso; omega
      · exact r
    have HA : Hid (∀ i, i < n → w.cell? ⟨p, o + i, none⟩ = some (.int .u8 ((f i : Nat) : Int))) := q1
    have HB : Hid (∀ i, i < n → w.cell? ⟨p', o' + i, none⟩ = some (.int .u8 ((g i : Nat) : Int))) := q2
    have HE : Hid (∀ i, i < q → f i = g i) := hq3
    have HD : Hid (f q ≠ g q) := hq2
    clear ra rb q1 q2 hq2 hq3 hfg
    go_enter Try.func8, Try.ntmps8
    go_wp2_with fail
    go_loopw [5] (fun i wr => ∃ j m : Nat, j ≤ q ∧ i = .int .i64 (j : Int) ∧ Hid (wr = w.drewN m)) (fun i _ => n - (intOf i).toNat)
    case atStart => exact ⟨0, 0, by omega, rfl, rfl⟩
    case round =>
      obtain ⟨j, m, hj, rfl, HW⟩ := hrel
      have hi1 : (j : Int) < (n : Int) := by omega
      have c1 : wr.cell? ⟨p, o + j, none⟩ = some (.int .u8 ((f j : Nat) : Int)) := (by rw [HW.out]; exact HA.out j (by omega))
      have c2 : wr.cell? ⟨p', o' + j, none⟩ = some (.int .u8 ((g j : Nat) : Int)) := (by rw [HW.out]; exact HB.out j (by omega))
      by_cases hlt : j < q
      · rw [← HE.out j hlt] at c2
        have ne2 : (((f j : Nat) : Int) != ((f j : Nat) : Int)) = false := by simp
        go_wp2_with fail
        go_quiet (fail)
        go_wp2_with fail
        exact ⟨⟨j + 1, m + nq, by omega, by go_num, by show _ = _; rw [HW.out, World.drewN_drewN]⟩, by simp [intOf]; omega⟩
      · have e : j = q := by omega
        subst e
        have ne2 : (((f j : Nat) : Int) != ((g j : Nat) : Int)) = true := by have := HD.out; simp; omega
        go_wp2_with fail
        go_quiet (fail)
        go_wp2_with fail
        go_ret
        exact ⟨rfl, m + nq, by rw [HW.out, World.drewN_drewN]⟩
  · have ne : ((n : Int) != (n' : Int)) = true := by simp; omega
    go_enter Try.func8, Try.ntmps8
    go_wp2_with fail
    go_ret
    exact ⟨rfl, 0, rfl⟩
/-- Two lists. -/
theorem same_lists (a a' : Option Addr) (c c' : Nat) (l l' : List Nat) (hl : l.length ≤ 1000) (hl' : l'.length ≤ 1000) (b : Bool) (hb : b = decide (l = l')) (w : World) (ra : RowF w a (lf l) l.length) (rb : RowF w a' (lf l') l'.length) :
    Calls Try.prog 8 #[.slice a l.length c, .slice a' l'.length c'] w fun e w' => e = .returned (.bool b) ∧ ∃ m, w' = w.drewN m := by
  subst hb
  by_cases h : l = l'
  · subst h
    rw [decide_eq_true rfl]
    exact same_any a a' l.length c c' (lf l) (lf l) (by omega) (fun _ _ => rfl) w ra rb
  · rw [decide_eq_false h]
    refine same_no a a' l.length l'.length c c' (lf l) (lf l') (by omega) ?_ w ra rb
    by_cases h1 : l.length = l'.length
    · refine .inr (Classical.byContradiction fun h2 => h (list_ext h1 fun i hi => ?_))
      exact Classical.byContradiction fun h3 => h2 ⟨i, hi, h3⟩
    · exact .inl h1

theorem enc_pk {f : Nat → Nat} {len c s : Nat} (fb : ∀ i, f i < 256) (h : pk f len 0 0 = (c, s, 0)) : enc c = tab f s := by
  rw [pk_0] at h
  obtain ⟨t, h1, h2, _⟩ := scan_enc (fun i => f (0 + i)) (fun i => fb _) _ _ _ _ _ h
  have : c = t := by simpa using h1
  rw [this, h2, Nat.sub_zero]
  exact List.map_congr_left (fun j _ => by rw [Nat.zero_add, Nat.zero_add])
set_option maxHeartbeats 2000000 in
theorem one_walk (a : Option Addr) (len cap : Nat) (f : Nat → Nat) (fb : ∀ i, f i < 256) (hlc : len ≤ cap) (hlen : len ≤ 140737488351232) (m n : Int) (m1 : -9223372036854775808 ≤ m) (m2 : m ≤ 9223372036854775807) (n1 : -9223372036854775808 ≤ n) (n2 : n ≤ 9223372036854775807) (w : World) (ra : RowF w a f len) :
    Calls Try.prog 7 #[.slice a len cap, .int .i64 m, .int .i64 n] w fun e w' => e = .returned (.bool true) ∧ Below w.heap.size w w' := by
  have RA : Hid (RowF w a f len) := ra
  have FB : Hid (∀ i, f i < 256) := fb
  have lm := enc_len10 (fold_lt m1 m2)
  have ln := enc_len10 (fold_lt n1 n2)
  obtain ⟨L, hL⟩ : ∃ L, L = enc (fold m) := ⟨_, rfl⟩
  obtain ⟨L', hL'⟩ : ∃ L, L = enc (fold n) := ⟨_, rfl⟩
  have EL : Hid (tab (fun _ => 0) 0 ++ enc (fold m) = L) := by rw [← hL]; rfl
  have EL' : Hid (tab (fun _ => 0) 0 ++ enc (fold n) = L') := by rw [← hL']; rfl
  rw [← hL] at lm
  rw [← hL'] at ln
  have hd : Hid (decide (m = n) = decide (L = L')) := by
    show _ = _
    by_cases h : m = n
    · subst h; rw [hL, hL']; simp
    · have : L ≠ L' := fun e => h (fold_inj (enc_inj _ _ (by rw [← hL, ← hL']; exact e)))
      simp [h, this]
  clear ra fb hL hL'
  go_enter Try.func7, Try.ntmps7
  go_wp2_with fail
  refine (read_any a len cap f FB.out (by omega) _ RA.out).mono ?_
  rintro e w2 ⟨R, rfl, hR, h2, hB⟩
  have HB : Hid (Below w.heap.size w w2) := hB
  have H2 : Hid (IsRd w2 R f len 0 0) := h2
  clear hB h2
  go_wp2_with fail
  refine (rdnum_any R len 0 0 f _ H2.out).mono ?_
  rintro e w3 ⟨rfl, h3, t3⟩
  have HB3 : Hid (Below w.heap.size w w3) := t3.below HB.out hR
  clear t3 HB H2
  rcases pk_cases f len 0 0 (Nat.zero_le _) FB.out with ⟨e, q1, q2, q3⟩ | ⟨c, s, q1, _, q2, q3, q4⟩
  case' inl =>
    rw [q1] at h3 ⊢
    have H3 : Hid (IsRd w3 R f len 0 e) := h3
    clear h3 q3
    have j1 : ((e : Int) != 0) = true := by simp; omega
    go_wp2_with fail
    refine (wrong_any R len 0 e f _ H3.out).mono ?_
    rintro e w4 ⟨rfl, rfl⟩
    clear H3
    go_wp2_with fail
    have HB5 : Hid (Below w.heap.size w w3) := HB3
    obtain ⟨w5, rfl⟩ : ∃ w5, w5 = w3 := ⟨_, rfl⟩
    clear HB3
  case' inr =>
    rw [q1] at h3 ⊢
    rw [Nat.zero_add] at h3
    have H3 : Hid (IsRd w3 R f len s 0) := h3
    have HE : Hid (tab (fun _ => 0) 0 ++ enc (fold (unf c)) = tab f s) := by show _ = _; rw [fold_unf, enc_pk FB.out q1]; rfl
    have hu := unf_lo q4
    have sh := slice_hi a len cap s (by omega)
    clear h3 q1
    go_wp2_with fail
    refine (wrong_any R len s 0 f _ H3.out).mono ?_
    rintro e w4 ⟨rfl, rfl⟩
    go_wp2_with fail
    refine (num_any none 0 0 (fun _ => 0) (unf c) hu.1 hu.2 (by decide) _ (.inl rfl)).mono ?_
    rintro e w4 ⟨v, rfl, O4, B4⟩
    rw [HE.out] at O4
    have HB4 : Hid (Below w.heap.size w w4) := HB3.out.trans (B4.mono HB3.out.size)
    have H4 : Hid (IsRd w4 R f len s 0) := H3.out.up B4
    obtain ⟨a4, c4, rfl, _, r4⟩ := O4.row
    rw [tab_length] at r4 ⊢
    have R4 : Hid (RowF w4 a4 (lf (tab f s)) s) := r4
    clear O4 B4 r4 H3 HB3
    go_wp2_with fail
    refine (at_any R len s 0 f _ H4.out).mono ?_
    rintro e w5 ⟨rfl, rfl⟩
    go_wp2_with fail
    refine (same_any a4 (sl a 0 cap) s c4 cap (lf (tab f s)) f (by omega) (fun i hi => lf_tab hi) _ R4.out ((RA.out.below HB4.out).head s cap (by omega) hlc)).mono ?_
    rintro e w5 ⟨rfl, d, rfl⟩
    have HB5 : Hid (Below w.heap.size w (w4.drewN d)) := below_drewN HB4.out d
    obtain ⟨w5, hw5⟩ : ∃ w5, w5 = w4.drewN d := ⟨_, rfl⟩
    rw [← hw5] at HB5 ⊢
    clear hw5 HB4 H4 R4
    go_wp2_with fail
  all_goals
    refine (num_any none 0 0 (fun _ => 0) m m1 m2 (by decide) _ (.inl rfl)).mono ?_
    rintro e w6 ⟨v, rfl, O6, B6⟩
    rw [EL.out] at O6
    have HB6 : Hid (Below w.heap.size w w6) := HB5.out.trans (B6.mono HB5.out.size)
    obtain ⟨a6, c6, rfl, _, r6⟩ := O6.row
    have R6 : Hid (RowF w6 a6 (lf L) L.length) := r6
    clear O6 B6 r6 HB5
    go_wp2_with fail
    refine (num_any none 0 0 (fun _ => 0) n n1 n2 (by decide) _ (.inl rfl)).mono ?_
    rintro e w7 ⟨v, rfl, O7, B7⟩
    rw [EL'.out] at O7
    have HB7 : Hid (Below w.heap.size w w7) := HB6.out.trans (B7.mono HB6.out.size)
    have R6' : Hid (RowF w7 a6 (lf L) L.length) := R6.out.below B7
    obtain ⟨a7, c7, rfl, _, r7⟩ := O7.row
    have R7 : Hid (RowF w7 a7 (lf L') L'.length) := r7
    clear O7 B7 r7 HB6 R6
    go_wp2_with fail
    refine (same_lists a6 a7 c6 c7 L L' (by omega) (by omega) (decide (m = n)) hd.out _ R6'.out R7.out).mono ?_
    rintro e w8 ⟨rfl, d8, rfl⟩
    have HB8 : Hid (Below w.heap.size w (w7.drewN d8)) := below_drewN HB7.out d8
    obtain ⟨w8, hw8⟩ : ∃ w8, w8 = w7.drewN d8 := ⟨_, rfl⟩
    rw [← hw8] at HB8 ⊢
    clear hw8 HB7 R6' R7
    have jb : (decide (m = n) == (m == n)) = true := by by_cases h : m = n <;> simp [h]
    go_wp2_with fail
    refine (runs_any _).mono ?_
    rintro e w9 ⟨rfl, B9⟩
    have HB9 : Hid (Below w.heap.size w w9) := HB8.out.trans (B9.mono HB8.out.size)
    clear B9 HB8
    go_wp2_with fail
    go_ret
    exact ⟨rfl, HB9.out⟩
end Go.Proofs.Ytihghccjcicbeaa
