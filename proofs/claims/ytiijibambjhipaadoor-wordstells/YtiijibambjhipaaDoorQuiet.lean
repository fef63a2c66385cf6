/-
  WORDSQUIET walked.
-/
import Derived.Test.YtiijibambjhipaaDoorReqs
namespace Go.Proofs.YtiijibambjhipaaDoor
open Go.RowKit

theorem app_lit (t : B) : S t ++ (⟨#[32, 110, 111, 114, 101, 112, 108, 121]⟩ : ByteArray) = S (t ++ 32 :: noreply) := L_inj (by rw [L_append]; rfl)
theorem keys_len {s : B} {r : Rq} {er : Nat} (h : line s = (r, er)) : r.keys.length ≤ s.length := by
  have hst : ∀ k x (q : Rq), (st k x q).1.keys.length ≤ q.keys.length + 1 := fun k x q => by
    unfold st; split <;> simp
  have hrd : ∀ (ks : List Nat) (l : List B) (i : Nat) (q q' : Rq), rd ks i l q = some q' → q'.keys.length ≤ q.keys.length + l.length := fun ks l => by
    induction l with
    | nil => intro i q q' h; simp [rd] at h; subst h; omega
    | cons x l ih =>
      intro i q q' h
      rw [rd] at h
      split at h
      · have := ih _ _ _ h
        have := hst (kd ks i) x q
        simp; omega
      · cases h
  unfold line at h
  split at h
  · have := congrArg Prod.fst h; simp only at this; subst this; simp [Rq.none]
  · rename_i w l hs
    have hl := split_len s
    rw [hs] at hl
    unfold lin at h
    split at h
    · have := congrArg Prod.fst h; simp only at this; subst this; simp [Rq.none]
    · split at h
      · have := congrArg Prod.fst h; simp only at this; subst this; simp [Rq.none]
      · split at h
        · have := congrArg Prod.fst h; simp only at this; subst this; simp [Rq.none]
        · rename_i r0 hr0
          have := congrArg Prod.fst h; simp only at this; subst this
          have h1 := hrd _ _ _ _ _ hr0
          have h2 := args_len (fm (vb w)) l
          simp [Rq.none] at h1 hl ⊢
          omega
set_option maxRecDepth 100000 in
set_option maxHeartbeats 4000000 in
theorem quiet_walk (s : ByteArray) (w : World) (ht : HasTab w) : Calls Tryd.prog 7 #[.string s] w fun e w' => e = .returned (.bool true) ∧ Below w.heap.size w w' := by
  have SH := short_any s
  obtain ⟨t, htt⟩ : ∃ t, t = shr (L s) := ⟨_, rfl⟩
  have tl : t.length ≤ 500 := by rw [htt]; exact shr_len _
  simp only [← htt] at SH
  clear htt
  obtain ⟨⟨v, ks, f, x, b, c, d, q⟩, er, hL⟩ : ∃ r er, line t = (r, er) := ⟨_, _, rfl⟩
  obtain ⟨⟨v', ks', f', x', b', c', d', q'⟩, er', hL'⟩ : ∃ r er, line (t ++ 32 :: noreply) = (r, er) := ⟨_, _, rfl⟩
  have kl := keys_len hL
  have LA := line_c (S t) (by rw [S_size]; omega) hL ((v : Nat) : Int) ((d : Nat) : Int) ((er : Nat) : Int) rfl rfl rfl
  have LB := line_c (S (t ++ 32 :: noreply)) (by rw [S_size, List.length_append]; simp [noreply]; omega) hL' ((v' : Nat) : Int) ((d' : Nat) : Int) ((er' : Nat) : Int) rfl rfl rfl
  have SP := split_any (S t) (by rw [S_size]; omega)
  rw [L_S] at SP
  have QL : Hid (er = 0 → q = false → v ≠ 1 → v ≠ 2 → v ≠ 14 → v ≠ 16 → v ≠ 17 → (v' = v ∧ ks' = ks ∧ f' = f ∧ x' = x ∧ b' = b ∧ c' = c ∧ d' = d ∧ q' = true ∧ er' = 0) ∧ split t ≠ []) := Lib.hid (fun h0 hq h1 h2 h14 h16 h17 => by
    subst h0
    obtain ⟨e1, e2⟩ := quiet_line hL hq h1 h2 h14 h16 h17
    rw [hL'] at e1
    have e3 := congrArg Prod.fst e1
    have e4 := congrArg Prod.snd e1
    simp only [Rq.mk.injEq] at e3 e4
    obtain ⟨k1, k2, k3, k4, k5, k6, k7, k8⟩ := e3
    exact ⟨⟨k1, k2, k3, k4, k5, k6, k7, k8, e4⟩, e2⟩)
  have al := app_lit t
  have HKL := Lib.hid (Nat.le_trans kl (Nat.le_trans tl (show 500 ≤ 100000 by omega)))
  generalize S (t ++ 32 :: noreply) = T2 at *
  obtain ⟨V, hV⟩ : ∃ V : Int, ((v : Nat) : Int) = V := ⟨_, rfl⟩
  obtain ⟨D, hD⟩ : ∃ D : Int, ((d : Nat) : Int) = D := ⟨_, rfl⟩
  obtain ⟨E, hE⟩ : ∃ E : Int, ((er : Nat) : Int) = E := ⟨_, rfl⟩
  obtain ⟨V', hV'⟩ : ∃ V' : Int, ((v' : Nat) : Int) = V' := ⟨_, rfl⟩
  obtain ⟨D', hD'⟩ : ∃ D' : Int, ((d' : Nat) : Int) = D' := ⟨_, rfl⟩
  obtain ⟨E', hE'⟩ : ∃ E' : Int, ((er' : Nat) : Int) = E' := ⟨_, rfl⟩
  simp only [hV, hD, hE] at LA
  simp only [hV', hD', hE'] at LB
  have HH := Lib.hid (And.intro hV (And.intro hD (And.intro hE (And.intro hV' (And.intro hD' hE')))))
  have SZ : (S t).size ≤ 500 := by rw [S_size]; exact tl
  have HT := Lib.hid ht
  have BB0 := Lib.hid (Below.refl w.heap.size w)
  clear hL hL' kl hV hD hE hV' hD' hE' ht tl
  generalize S t = T1 at *
  go_enter Tryd.func7, Tryd.ntmps7
  go_wp2_with fail
  refine (SH _).mono ?_
  rintro e w' ⟨rfl, rfl⟩
  go_wp2_with fail
  refine (SP _).mono ?_
  rintro e w1 ⟨sv, rfl, S1, b1⟩
  obtain ⟨a1, n1, c1, rfl⟩ := S1.form
  obtain ⟨hn1, _⟩ := S1.len
  have HN1 := Lib.hid hn1
  have BB1 := Lib.hid b1
  clear S1 b1 hn1 SH SP
  go_wp2_with fail
  refine (LA _ (HT.out.below BB1.out)).mono ?_
  rintro e w2 ⟨a2, n2, c2, rfl, S2, b2⟩
  obtain ⟨X2, hX2⟩ : ∃ X, X = w2.alloc (.cells #[.int .i64 V, .slice a2 n2 c2, .int .i64 f, .int .i64 x, .int .i64 b, .int .i64 c, .int .u64 D, .bool q, .string ⟨#[]⟩] 25) := ⟨_, rfl⟩
  obtain ⟨G2, hG2⟩ : ∃ G, G = w2.heap.size := ⟨_, rfl⟩
  have bx2 : Below w2.heap.size w2 X2 := by rw [hX2]; exact (Below.refl _ _).alloc (Nat.le_refl _) _
  have BB2 : Hid (Below w.heap.size w X2) := Lib.hid ((BB1.out.trans (b2.mono BB1.out.size)).trans (bx2.mono (BB1.out.trans (b2.mono BB1.out.size)).size))
  have HF2 : Hid (X2.rangeAt G2 0 [.int .i64 V, .slice a2 n2 c2, .int .i64 f, .int .i64 x, .int .i64 b, .int .i64 c, .int .u64 D, .bool q, .string ⟨#[]⟩] ∧ Strs X2 (.slice a2 n2 c2) ks) := Lib.hid ⟨by rw [hX2, hG2]; exact lay_new _ _, S2.below bx2⟩
  have HX2 := Lib.hid hX2
  have HG2 := Lib.hid hG2
  clear S2 b2 bx2 hX2 hG2 BB1
  go_wp2_with fail
  rw [← HX2.out, ← HG2.out]
  refine (LB _ (HT.out.below BB2.out)).mono ?_
  rintro e w3 ⟨a3, n3, c3, rfl, S3, b3⟩
  obtain ⟨X3, hX3⟩ : ∃ X, X = w3.alloc (.cells #[.int .i64 V', .slice a3 n3 c3, .int .i64 f', .int .i64 x', .int .i64 b', .int .i64 c', .int .u64 D', .bool q', .string ⟨#[]⟩] 25) := ⟨_, rfl⟩
  have bx3 : Below w3.heap.size w3 X3 := by rw [hX3]; exact (Below.refl _ _).alloc (Nat.le_refl _) _
  have bb3 := BB2.out.trans (b3.mono BB2.out.size)
  have BB3 : Hid (Below w.heap.size w X3) := Lib.hid (bb3.trans (bx3.mono bb3.size))
  have HB3 := Lib.hid bb3
  have L3 := lay_up bx3 (lay_up b3 HF2.out.1)
  have HS3 := Lib.hid S3
  have HS2 := Lib.hid (HF2.out.2.below b3)
  have HL2 := Lib.hid (lay_up b3 HF2.out.1)
  have A7 := L3 7 _ rfl
  have A0 := L3 0 _ rfl
  rw [Nat.zero_add] at A7 A0
  rw [hX3] at A7 A0 BB3
  clear L3 S3 b3 bx3 hX3 bb3 HX2 HG2 HF2 BB2
  by_cases hE0 : er = 0
  · have hE1 : E = 0 := by have := HH.out.2.2.1; omega
    subst hE1
    cases q with
    | true =>
      go_wp2_with fail
      refine (runs_any _ (HT.out.below BB3.out)).mono ?_
      rintro e w9 ⟨rfl, b9⟩
      have HB9 := Lib.hid (BB3.out.trans (b9.mono BB3.out.size))
      clear b9
      go_wp2_with fail
      go_ret
      exact ⟨rfl, HB9.out⟩
    | false =>
      by_cases hv1 : V = 1
      · subst hv1
        go_wp2_with fail
        refine (runs_any _ (HT.out.below BB3.out)).mono ?_
        rintro e w9 ⟨rfl, b9⟩
        have HB9 := Lib.hid (BB3.out.trans (b9.mono BB3.out.size))
        clear b9
        go_wp2_with fail
        go_ret
        exact ⟨rfl, HB9.out⟩
      by_cases hv2 : V = 2
      · subst hv2
        go_wp2_with fail
        refine (runs_any _ (HT.out.below BB3.out)).mono ?_
        rintro e w9 ⟨rfl, b9⟩
        have HB9 := Lib.hid (BB3.out.trans (b9.mono BB3.out.size))
        clear b9
        go_wp2_with fail
        go_ret
        exact ⟨rfl, HB9.out⟩
      by_cases hv14 : V = 14
      · subst hv14
        go_wp2_with fail
        refine (runs_any _ (HT.out.below BB3.out)).mono ?_
        rintro e w9 ⟨rfl, b9⟩
        have HB9 := Lib.hid (BB3.out.trans (b9.mono BB3.out.size))
        clear b9
        go_wp2_with fail
        go_ret
        exact ⟨rfl, HB9.out⟩
      by_cases hv16 : V = 16
      · subst hv16
        go_wp2_with fail
        refine (runs_any _ (HT.out.below BB3.out)).mono ?_
        rintro e w9 ⟨rfl, b9⟩
        have HB9 := Lib.hid (BB3.out.trans (b9.mono BB3.out.size))
        clear b9
        go_wp2_with fail
        go_ret
        exact ⟨rfl, HB9.out⟩
      by_cases hv17 : V = 17
      · subst hv17
        go_wp2_with fail
        refine (runs_any _ (HT.out.below BB3.out)).mono ?_
        rintro e w9 ⟨rfl, b9⟩
        have HB9 := Lib.hid (BB3.out.trans (b9.mono BB3.out.size))
        clear b9
        go_wp2_with fail
        go_ret
        exact ⟨rfl, HB9.out⟩
      obtain ⟨⟨rfl, rfl, rfl, rfl, rfl, rfl, rfl, rfl, rfl⟩, hne⟩ := QL.out hE0 rfl (by have := HH.out.1; omega) (by have := HH.out.1; omega) (by have := HH.out.1; omega) (by have := HH.out.1; omega) (by have := HH.out.1; omega)
      obtain ⟨k1, k2, k3, k4, k5, k6⟩ := HH.out
      obtain rfl : V' = V := by omega
      obtain rfl : D' = D := by omega
      obtain rfl : E' = 0 := by omega
      have n1p : 0 < n1 := by rw [HN1.out]; exact List.length_pos_iff.2 hne
      have e1 : (V' == 1) = false := beq_eq_false_iff_ne.2 hv1
      have e2 : (V' == 2) = false := beq_eq_false_iff_ne.2 hv2
      have e3 : (V' == 14) = false := beq_eq_false_iff_ne.2 hv14
      have e4 : (V' == 16) = false := beq_eq_false_iff_ne.2 hv16
      have e5 : (V' == 17) = false := beq_eq_false_iff_ne.2 hv17
      clear hv1 hv2 hv14 hv16 hv17 k1 k2 k3 k4 k5 k6 hne QL HH HN1 hE0
      have bY : Below w3.heap.size w3 (w3.alloc (.cells #[.int .i64 V', .slice a3 n3 c3, .int .i64 f', .int .i64 x', .int .i64 b', .int .i64 c', .int .u64 D', .bool false, .string ⟨#[]⟩] 25)) := (Below.refl _ _).alloc (Nat.le_refl _) _
      have BY : Hid (Below w.heap.size w (w3.alloc (.cells #[.int .i64 V', .slice a3 n3 c3, .int .i64 f', .int .i64 x', .int .i64 b', .int .i64 c', .int .u64 D', .bool false, .string ⟨#[]⟩] 25))) := Lib.hid (HB3.out.trans (bY.mono HB3.out.size))
      have HLa := Lib.hid (lay_up bY HL2.out)
      have HSa := Lib.hid (HS2.out.below bY)
      have HSb := Lib.hid (HS3.out.below bY)
      have HLb : Hid ((w3.alloc (.cells #[.int .i64 V', .slice a3 n3 c3, .int .i64 f', .int .i64 x', .int .i64 b', .int .i64 c', .int .u64 D', .bool false, .string ⟨#[]⟩] 25)).rangeAt w3.heap.size 0 [.int .i64 V', .slice a3 n3 c3, .int .i64 f', .int .i64 x', .int .i64 b', .int .i64 c', .int .u64 D', .bool false, .string ⟨#[]⟩]) := Lib.hid (lay_new _ _)
      clear bY HL2 HS2 HS3 BB3
      go_wp2_with fail
      refine (LB _ (HT.out.below BY.out)).mono ?_
      rintro e w4 ⟨a4, n4, c4, rfl, _, b4⟩
      have bX : Below w4.heap.size w4 (w4.alloc (.cells #[.int .i64 V', .slice a4 n4 c4, .int .i64 f', .int .i64 x', .int .i64 b', .int .i64 c', .int .u64 D', .bool true, .string ⟨#[]⟩] 25)) := (Below.refl _ _).alloc (Nat.le_refl _) _
      have b5 := b4.trans (bX.mono b4.size)
      have BX : Hid (Below w.heap.size w (w4.alloc (.cells #[.int .i64 V', .slice a4 n4 c4, .int .i64 f', .int .i64 x', .int .i64 b', .int .i64 c', .int .u64 D', .bool true, .string ⟨#[]⟩] 25))) := Lib.hid (BY.out.trans (b5.mono BY.out.size))
      have la := lay_up b5 HLa.out
      have lb := lay_up b5 HLb.out
      have RA := reqs_any V' f' x' b' c' D' false ks' a2 a3 n2 n3 c2 c3 HKL.out _ (HSa.out.below b5) (HSb.out.below b5)
      have p0 : (w4.alloc (.cells #[.int .i64 V', .slice a4 n4 c4, .int .i64 f', .int .i64 x', .int .i64 b', .int .i64 c', .int .u64 D', .bool true, .string ⟨#[]⟩] 25)).cell? ⟨G2, 0, none⟩ = some (.int .i64 V') := la 0 _ rfl
      have r0 : (w4.alloc (.cells #[.int .i64 V', .slice a4 n4 c4, .int .i64 f', .int .i64 x', .int .i64 b', .int .i64 c', .int .u64 D', .bool true, .string ⟨#[]⟩] 25)).cell? ⟨w3.heap.size, 0, none⟩ = some (.int .i64 V') := lb 0 _ rfl
      have p1 : (w4.alloc (.cells #[.int .i64 V', .slice a4 n4 c4, .int .i64 f', .int .i64 x', .int .i64 b', .int .i64 c', .int .u64 D', .bool true, .string ⟨#[]⟩] 25)).cell? ⟨G2, 1, none⟩ = some (.slice a2 n2 c2) := la 1 _ rfl
      have r1 : (w4.alloc (.cells #[.int .i64 V', .slice a4 n4 c4, .int .i64 f', .int .i64 x', .int .i64 b', .int .i64 c', .int .u64 D', .bool true, .string ⟨#[]⟩] 25)).cell? ⟨w3.heap.size, 1, none⟩ = some (.slice a3 n3 c3) := lb 1 _ rfl
      have p2 : (w4.alloc (.cells #[.int .i64 V', .slice a4 n4 c4, .int .i64 f', .int .i64 x', .int .i64 b', .int .i64 c', .int .u64 D', .bool true, .string ⟨#[]⟩] 25)).cell? ⟨G2, 2, none⟩ = some (.int .i64 f') := la 2 _ rfl
      have r2 : (w4.alloc (.cells #[.int .i64 V', .slice a4 n4 c4, .int .i64 f', .int .i64 x', .int .i64 b', .int .i64 c', .int .u64 D', .bool true, .string ⟨#[]⟩] 25)).cell? ⟨w3.heap.size, 2, none⟩ = some (.int .i64 f') := lb 2 _ rfl
      have p3 : (w4.alloc (.cells #[.int .i64 V', .slice a4 n4 c4, .int .i64 f', .int .i64 x', .int .i64 b', .int .i64 c', .int .u64 D', .bool true, .string ⟨#[]⟩] 25)).cell? ⟨G2, 3, none⟩ = some (.int .i64 x') := la 3 _ rfl
      have r3 : (w4.alloc (.cells #[.int .i64 V', .slice a4 n4 c4, .int .i64 f', .int .i64 x', .int .i64 b', .int .i64 c', .int .u64 D', .bool true, .string ⟨#[]⟩] 25)).cell? ⟨w3.heap.size, 3, none⟩ = some (.int .i64 x') := lb 3 _ rfl
      have p4 : (w4.alloc (.cells #[.int .i64 V', .slice a4 n4 c4, .int .i64 f', .int .i64 x', .int .i64 b', .int .i64 c', .int .u64 D', .bool true, .string ⟨#[]⟩] 25)).cell? ⟨G2, 4, none⟩ = some (.int .i64 b') := la 4 _ rfl
      have r4 : (w4.alloc (.cells #[.int .i64 V', .slice a4 n4 c4, .int .i64 f', .int .i64 x', .int .i64 b', .int .i64 c', .int .u64 D', .bool true, .string ⟨#[]⟩] 25)).cell? ⟨w3.heap.size, 4, none⟩ = some (.int .i64 b') := lb 4 _ rfl
      have p5 : (w4.alloc (.cells #[.int .i64 V', .slice a4 n4 c4, .int .i64 f', .int .i64 x', .int .i64 b', .int .i64 c', .int .u64 D', .bool true, .string ⟨#[]⟩] 25)).cell? ⟨G2, 5, none⟩ = some (.int .i64 c') := la 5 _ rfl
      have r5 : (w4.alloc (.cells #[.int .i64 V', .slice a4 n4 c4, .int .i64 f', .int .i64 x', .int .i64 b', .int .i64 c', .int .u64 D', .bool true, .string ⟨#[]⟩] 25)).cell? ⟨w3.heap.size, 5, none⟩ = some (.int .i64 c') := lb 5 _ rfl
      have p6 : (w4.alloc (.cells #[.int .i64 V', .slice a4 n4 c4, .int .i64 f', .int .i64 x', .int .i64 b', .int .i64 c', .int .u64 D', .bool true, .string ⟨#[]⟩] 25)).cell? ⟨G2, 6, none⟩ = some (.int .u64 D') := la 6 _ rfl
      have r6 : (w4.alloc (.cells #[.int .i64 V', .slice a4 n4 c4, .int .i64 f', .int .i64 x', .int .i64 b', .int .i64 c', .int .u64 D', .bool true, .string ⟨#[]⟩] 25)).cell? ⟨w3.heap.size, 6, none⟩ = some (.int .u64 D') := lb 6 _ rfl
      have p7 : (w4.alloc (.cells #[.int .i64 V', .slice a4 n4 c4, .int .i64 f', .int .i64 x', .int .i64 b', .int .i64 c', .int .u64 D', .bool true, .string ⟨#[]⟩] 25)).cell? ⟨G2, 7, none⟩ = some (.bool false) := la 7 _ rfl
      have r7 : (w4.alloc (.cells #[.int .i64 V', .slice a4 n4 c4, .int .i64 f', .int .i64 x', .int .i64 b', .int .i64 c', .int .u64 D', .bool true, .string ⟨#[]⟩] 25)).cell? ⟨w3.heap.size, 7, none⟩ = some (.bool false) := lb 7 _ rfl
      have p8 : (w4.alloc (.cells #[.int .i64 V', .slice a4 n4 c4, .int .i64 f', .int .i64 x', .int .i64 b', .int .i64 c', .int .u64 D', .bool true, .string ⟨#[]⟩] 25)).cell? ⟨G2, 8, none⟩ = some (.string ⟨#[]⟩) := la 8 _ rfl
      have r8 : (w4.alloc (.cells #[.int .i64 V', .slice a4 n4 c4, .int .i64 f', .int .i64 x', .int .i64 b', .int .i64 c', .int .u64 D', .bool true, .string ⟨#[]⟩] 25)).cell? ⟨w3.heap.size, 8, none⟩ = some (.string ⟨#[]⟩) := lb 8 _ rfl
      clear la lb bX b4 b5 HLa HLb HSa HSb BY
      go_wp2_with fail
      refine RA.mono ?_
      rintro e w5 ⟨rfl, b6⟩
      have B5 := Lib.hid (BX.out.trans (b6.mono BX.out.size))
      clear b6 RA
      go_wp2_with fail
      refine (runs_any _ (HT.out.below B5.out)).mono ?_
      rintro e w9 ⟨rfl, b9⟩
      have HB9 := Lib.hid (B5.out.trans (b9.mono B5.out.size))
      clear b9
      go_wp2_with fail
      go_ret
      exact ⟨rfl, HB9.out⟩
  · have hE1 : (E != 0) = true := by
      have := HH.out.2.2.1
      simp only [bne_iff_ne, ne_eq]; omega
    go_wp2_with fail
    refine (runs_any _ (HT.out.below BB3.out)).mono ?_
    rintro e w9 ⟨rfl, b9⟩
    have HB9 := Lib.hid (BB3.out.trans (b9.mono BB3.out.size))
    clear b9
    go_wp2_with fail
    go_ret
    exact ⟨rfl, HB9.out⟩
end Go.Proofs.YtiijibambjhipaaDoor
