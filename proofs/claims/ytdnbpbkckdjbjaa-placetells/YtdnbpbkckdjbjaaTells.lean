/-
  PLACETELLS walked.
-/
import Derived.Test.YtdnbpbkckdjbjaaOne
namespace Go.Proofs.Ytdnbpbkckdjbjaa
open Go.RowKit

theorem met_len (k : ByteArray) (m s : Int) : (met k m s).length ≤ 12 := by
  unfold met
  split
  · simp
  · exact str_len _ _ _
set_option maxRecDepth 100000 in
set_option maxHeartbeats 2000000 in
theorem tells_a (key : ByteArray) (hz : key.size ≤ 9223372036854775807) (hs : ¬ 500 < key.size) (n m s x : Int) (hsl : s ≤ 9223372036854775807) (w : World) : Calls Try.prog 4 #[.string key, .int .i64 n, .int .i64 m, .int .i64 s, .int .i64 x] w fun e w' => e = .returned (.bool true) ∧ Below w.heap.size w w' := by
  have hi1 : decide ((500 : Int) < (key.size : Int)) = false := by simp; omega
  have hz2 : key.size ≤ 140737488355328 := by omega
  clear hs
  go_enter Try.func4, Try.ntmps4
  go_wp2_with fail
  obtain ⟨k, hk⟩ : ∃ k, k = key := ⟨_, rfl⟩
  rw [← hk] at hz2 ⊢
  clear hk hi1 hz
  have HZ := hid hz2
  refine (rstripe_any k HZ.out n s _).mono ?_
  rintro e w1 ⟨V, rfl, i1, b1⟩
  obtain ⟨l, hl⟩ : ∃ l, str k n s = l := ⟨_, rfl⟩
  have hll := str_len k n s
  have hon := str_once k n s
  rw [hl] at i1 hll hon
  obtain ⟨N, hN⟩ : ∃ N, N = l.length := ⟨_, rfl⟩
  obtain ⟨a, c, rfl, _⟩ := i1.form
  rw [← hN] at i1 hll ⊢
  have HI := hid i1
  have HB := hid b1
  have HL := hid hl
  have HO := hid hon
  have HN := hid hN
  clear i1 b1 hl hon hN
  go_wp2_with fail
  go_loopw [12, 13] (fun p i wr => ∃ (j : Nat) (p0 : Int), j ≤ N ∧ p = .int .i64 p0 ∧ i = .int .i64 (j : Int) ∧ Hid (p0 = ixf x (l.take j) 0) ∧ w1 = wr) (fun _ i _ => N - (intOf i).toNat)
  case atStart => exact ⟨0, -1, by omega, rfl, rfl, rfl, rfl⟩
  case round =>
    obtain ⟨j, p0, hj, rfl, rfl, HP, rfl⟩ := hrel
    by_cases hlt : j < N
    · obtain ⟨u, hu⟩ : ∃ u, l[j]? = some u := ⟨_, List.getElem?_eq_getElem (by rw [← HN.out]; exact hlt)⟩
      obtain ⟨g, e1, _, d1⟩ := HI.out.read hu
      subst e1
      have hi1 : (j : Int) < (N : Int) := by omega
      have st := ixf_step (x := x) hu (HO.out j u hu)
      clear hu
      by_cases hx : u = x
      · have HP2 : Hid ((j : Int) = ixf x (l.take (j + 1)) 0) := by show _ = _; rw [st, if_pos hx]
        have hxu : (u == x) = true := by simp [hx]
        clear hx st
        go_wp2_with fail
        exact ⟨⟨j + 1, (j : Int), by omega, rfl, by go_num, HP2, trivial⟩, by simp [intOf]; omega⟩
      · have HP2 : Hid (p0 = ixf x (l.take (j + 1)) 0) := by show _ = _; rw [st, if_neg hx]; exact HP.out
        have hxu : (u == x) = false := by simp [hx]
        clear hx st
        go_wp2_with fail
        exact ⟨⟨j + 1, p0, by omega, rfl, by go_num, HP2, trivial⟩, by simp [intOf]; omega⟩
    · have hjn : j = N := by omega
      have HP2 : Hid (ixf x l 0 = p0) := by show _ = _; rw [HP.out, hjn, HN.out, List.take_length]
      have hpp : (p0 == p0) = true := by simp
      clear hjn HP
      obtain ⟨mt, hmt⟩ : ∃ mt, met k m s = mt := ⟨_, rfl⟩
      have hM2 := met_len k m s
      have hma := fun w => metas_any k HZ.out m s hsl w
      rw [hmt] at hM2
      simp only [hmt] at hma
      obtain ⟨M, hM⟩ : ∃ M, mt.length = M := ⟨_, rfl⟩
      rw [hM] at hM2
      have HMT := hid hmt
      have HML := hid hM
      have HMA := hid hma
      clear hmt hM hma
      by_cases m0 : m < 0
      · have d1 : decide (0 ≤ m) = false := by simp; omega
        have d2 : decide (100 < m) = false := by simp; omega
        have HM : Hid (IR w1 (.slice none 0 0) mt) := .inl ⟨HMT.out.symm.trans (if_pos m0), _, _, rfl⟩
        clear m0
        go_wp2_with fail
        refine (stripe_any k HZ.out n s _).mono ?_
        rintro e w3 ⟨V3, rfl, i3, b3⟩
        rw [HL.out] at i3
        have HI3 := hid (HI.out.below b3)
        have HB3 := hid (HB.out.trans (b3.mono HB.out.size))
        obtain ⟨a3, c3, rfl, _⟩ := i3.form
        rw [← HN.out] at i3 ⊢
        have HJ3 := hid i3
        have HM3 := hid (HM.out.below b3)
        clear i3 b3 HI HB
        go_wp2_with fail
        refine (same_any l (by rw [← HN.out]; omega) _ HJ3.out HI3.out).mono ?_
        rintro e w4 ⟨rfl, b4⟩
        have HB4 := hid (HB3.out.trans (b4.mono HB3.out.size))
        have HM4 := hid (HM3.out.below b4)
        clear b4 HB3
        go_wp2_with fail
        refine (pos_any k HZ.out n s x _).mono ?_
        rintro e w5 ⟨rfl, b5⟩
        rw [HL.out, HP2.out]
        have HB5 := hid (HB4.out.trans (b5.mono HB4.out.size))
        have HM5 := hid (HM4.out.below b5)
        clear b5 HB4
        go_wp2_with fail
        refine (HMA.out _).mono ?_
        rintro e w6 ⟨V6, rfl, i6, b6⟩
        have HB6 := hid (HB5.out.trans (b6.mono HB5.out.size))
        have HM6 := hid (HM5.out.below b6)
        obtain ⟨a6, c6, rfl, _⟩ := i6.form
        rw [HML.out] at i6 ⊢
        have HJ6 := hid i6
        clear i6 b6 HB5
        go_wp2_with fail
        refine (same_any mt (by rw [HML.out]; omega) _ HJ6.out HM6.out).mono ?_
        rintro e w7 ⟨rfl, b7⟩
        have HB7 := hid (HB6.out.trans (b7.mono HB6.out.size))
        clear b7 HB6
        go_wp2_with fail
        refine (runs_any _).mono ?_
        rintro e w9 ⟨rfl, b9⟩
        have HB9 := hid (HB7.out.trans (b9.mono HB7.out.size))
        clear b9
        go_wp2_with fail
        go_ret
        exact ⟨rfl, HB9.out⟩
      have d1 : decide (0 ≤ m) = true := by simp; omega
      by_cases m1 : m ≤ 100
      · have d2 : decide (m ≤ 100) = true := by simp [m1]
        have d3 : decide (100 < m) = false := by simp; omega
        have e0 : str k (m + 1) s = mt := (if_neg m0 : met k m s = str k (m + 1) s).symm.trans HMT.out
        have E0 := hid e0
        clear e0
        go_wp2_with fail
        refine (rstripe_any k HZ.out (m + 1) s _).mono ?_
        rintro e w2 ⟨V2, rfl, i2, b2⟩
        rw [E0.out] at i2
        obtain ⟨a2, c2, rfl, _⟩ := i2.form
        rw [HML.out] at i2 ⊢
        have HI' := HI
        have HB' := HB
        clear HI HB
        have HI := hid (HI'.out.below b2)
        have HB := hid (HB'.out.trans (b2.mono HB'.out.size))
        have HM := hid i2
        clear HI' HB' i2 b2 m0 m1
        obtain ⟨w1, rfl⟩ : ∃ w1, w1 = w2 := ⟨_, rfl⟩
        go_wp2_with fail
        refine (stripe_any k HZ.out n s _).mono ?_
        rintro e w3 ⟨V3, rfl, i3, b3⟩
        rw [HL.out] at i3
        have HI3 := hid (HI.out.below b3)
        have HB3 := hid (HB.out.trans (b3.mono HB.out.size))
        obtain ⟨a3, c3, rfl, _⟩ := i3.form
        rw [← HN.out] at i3 ⊢
        have HJ3 := hid i3
        have HM3 := hid (HM.out.below b3)
        clear i3 b3 HI HB
        go_wp2_with fail
        refine (same_any l (by rw [← HN.out]; omega) _ HJ3.out HI3.out).mono ?_
        rintro e w4 ⟨rfl, b4⟩
        have HB4 := hid (HB3.out.trans (b4.mono HB3.out.size))
        have HM4 := hid (HM3.out.below b4)
        clear b4 HB3
        go_wp2_with fail
        refine (pos_any k HZ.out n s x _).mono ?_
        rintro e w5 ⟨rfl, b5⟩
        rw [HL.out, HP2.out]
        have HB5 := hid (HB4.out.trans (b5.mono HB4.out.size))
        have HM5 := hid (HM4.out.below b5)
        clear b5 HB4
        go_wp2_with fail
        refine (HMA.out _).mono ?_
        rintro e w6 ⟨V6, rfl, i6, b6⟩
        have HB6 := hid (HB5.out.trans (b6.mono HB5.out.size))
        have HM6 := hid (HM5.out.below b6)
        obtain ⟨a6, c6, rfl, _⟩ := i6.form
        rw [HML.out] at i6 ⊢
        have HJ6 := hid i6
        clear i6 b6 HB5
        go_wp2_with fail
        refine (same_any mt (by rw [HML.out]; omega) _ HJ6.out HM6.out).mono ?_
        rintro e w7 ⟨rfl, b7⟩
        have HB7 := hid (HB6.out.trans (b7.mono HB6.out.size))
        clear b7 HB6
        go_wp2_with fail
        refine (runs_any _).mono ?_
        rintro e w9 ⟨rfl, b9⟩
        have HB9 := hid (HB7.out.trans (b9.mono HB7.out.size))
        clear b9
        go_wp2_with fail
        go_ret
        exact ⟨rfl, HB9.out⟩
      · have d2 : decide (m ≤ 100) = false := by simp; omega
        have d3 : decide (100 < m) = true := by simp; omega
        clear m0 m1
        go_wp2_with fail
        refine (stripe_any k HZ.out n s _).mono ?_
        rintro e w3 ⟨V3, rfl, i3, b3⟩
        rw [HL.out] at i3
        have HI3 := hid (HI.out.below b3)
        have HB3 := hid (HB.out.trans (b3.mono HB.out.size))
        obtain ⟨a3, c3, rfl, _⟩ := i3.form
        rw [← HN.out] at i3 ⊢
        have HJ3 := hid i3
        clear i3 b3 HI HB
        go_wp2_with fail
        refine (same_any l (by rw [← HN.out]; omega) _ HJ3.out HI3.out).mono ?_
        rintro e w4 ⟨rfl, b4⟩
        have HB4 := hid (HB3.out.trans (b4.mono HB3.out.size))
        clear b4 HB3
        go_wp2_with fail
        refine (pos_any k HZ.out n s x _).mono ?_
        rintro e w5 ⟨rfl, b5⟩
        rw [HL.out, HP2.out]
        have HB5 := hid (HB4.out.trans (b5.mono HB4.out.size))
        clear b5 HB4
        go_wp2_with fail
        refine (runs_any _).mono ?_
        rintro e w9 ⟨rfl, b9⟩
        have HB9 := hid (HB5.out.trans (b9.mono HB5.out.size))
        clear b9
        go_wp2_with fail
        go_ret
        exact ⟨rfl, HB9.out⟩
set_option maxRecDepth 100000 in
set_option maxHeartbeats 2000000 in
theorem tells_b (key : ByteArray) (hz : key.size ≤ 9223372036854775807) (hs : 500 < key.size) (n m s x : Int) (hsl : s ≤ 9223372036854775807) (w : World) : Calls Try.prog 4 #[.string key, .int .i64 n, .int .i64 m, .int .i64 s, .int .i64 x] w fun e w' => e = .returned (.bool true) ∧ Below w.heap.size w w' := by
  have hi1 : (500 : Int) < (key.size : Int) := by omega
  have hz2 : (key.extract 0 500).size ≤ 140737488355328 := by rw [ByteArray.size_extract]; omega
  clear hs
  go_enter Try.func4, Try.ntmps4
  go_wp2_with fail
  obtain ⟨k, hk⟩ : ∃ k, k = key.extract 0 500 := ⟨_, rfl⟩
  rw [← hk] at hz2 ⊢
  clear hk hi1 hz
  have HZ := hid hz2
  refine (rstripe_any k HZ.out n s _).mono ?_
  rintro e w1 ⟨V, rfl, i1, b1⟩
  obtain ⟨l, hl⟩ : ∃ l, str k n s = l := ⟨_, rfl⟩
  have hll := str_len k n s
  have hon := str_once k n s
  rw [hl] at i1 hll hon
  obtain ⟨N, hN⟩ : ∃ N, N = l.length := ⟨_, rfl⟩
  obtain ⟨a, c, rfl, _⟩ := i1.form
  rw [← hN] at i1 hll ⊢
  have HI := hid i1
  have HB := hid b1
  have HL := hid hl
  have HO := hid hon
  have HN := hid hN
  clear i1 b1 hl hon hN
  go_wp2_with fail
  go_loopw [12, 13] (fun p i wr => ∃ (j : Nat) (p0 : Int), j ≤ N ∧ p = .int .i64 p0 ∧ i = .int .i64 (j : Int) ∧ Hid (p0 = ixf x (l.take j) 0) ∧ w1 = wr) (fun _ i _ => N - (intOf i).toNat)
  case atStart => exact ⟨0, -1, by omega, rfl, rfl, rfl, rfl⟩
  case round =>
    obtain ⟨j, p0, hj, rfl, rfl, HP, rfl⟩ := hrel
    by_cases hlt : j < N
    · obtain ⟨u, hu⟩ : ∃ u, l[j]? = some u := ⟨_, List.getElem?_eq_getElem (by rw [← HN.out]; exact hlt)⟩
      obtain ⟨g, e1, _, d1⟩ := HI.out.read hu
      subst e1
      have hi1 : (j : Int) < (N : Int) := by omega
      have st := ixf_step (x := x) hu (HO.out j u hu)
      clear hu
      by_cases hx : u = x
      · have HP2 : Hid ((j : Int) = ixf x (l.take (j + 1)) 0) := by show _ = _; rw [st, if_pos hx]
        have hxu : (u == x) = true := by simp [hx]
        clear hx st
        go_wp2_with fail
        exact ⟨⟨j + 1, (j : Int), by omega, rfl, by go_num, HP2, trivial⟩, by simp [intOf]; omega⟩
      · have HP2 : Hid (p0 = ixf x (l.take (j + 1)) 0) := by show _ = _; rw [st, if_neg hx]; exact HP.out
        have hxu : (u == x) = false := by simp [hx]
        clear hx st
        go_wp2_with fail
        exact ⟨⟨j + 1, p0, by omega, rfl, by go_num, HP2, trivial⟩, by simp [intOf]; omega⟩
    · have hjn : j = N := by omega
      have HP2 : Hid (ixf x l 0 = p0) := by show _ = _; rw [HP.out, hjn, HN.out, List.take_length]
      have hpp : (p0 == p0) = true := by simp
      clear hjn HP
      obtain ⟨mt, hmt⟩ : ∃ mt, met k m s = mt := ⟨_, rfl⟩
      have hM2 := met_len k m s
      have hma := fun w => metas_any k HZ.out m s hsl w
      rw [hmt] at hM2
      simp only [hmt] at hma
      obtain ⟨M, hM⟩ : ∃ M, mt.length = M := ⟨_, rfl⟩
      rw [hM] at hM2
      have HMT := hid hmt
      have HML := hid hM
      have HMA := hid hma
      clear hmt hM hma
      by_cases m0 : m < 0
      · have d1 : decide (0 ≤ m) = false := by simp; omega
        have d2 : decide (100 < m) = false := by simp; omega
        have HM : Hid (IR w1 (.slice none 0 0) mt) := .inl ⟨HMT.out.symm.trans (if_pos m0), _, _, rfl⟩
        clear m0
        go_wp2_with fail
        refine (stripe_any k HZ.out n s _).mono ?_
        rintro e w3 ⟨V3, rfl, i3, b3⟩
        rw [HL.out] at i3
        have HI3 := hid (HI.out.below b3)
        have HB3 := hid (HB.out.trans (b3.mono HB.out.size))
        obtain ⟨a3, c3, rfl, _⟩ := i3.form
        rw [← HN.out] at i3 ⊢
        have HJ3 := hid i3
        have HM3 := hid (HM.out.below b3)
        clear i3 b3 HI HB
        go_wp2_with fail
        refine (same_any l (by rw [← HN.out]; omega) _ HJ3.out HI3.out).mono ?_
        rintro e w4 ⟨rfl, b4⟩
        have HB4 := hid (HB3.out.trans (b4.mono HB3.out.size))
        have HM4 := hid (HM3.out.below b4)
        clear b4 HB3
        go_wp2_with fail
        refine (pos_any k HZ.out n s x _).mono ?_
        rintro e w5 ⟨rfl, b5⟩
        rw [HL.out, HP2.out]
        have HB5 := hid (HB4.out.trans (b5.mono HB4.out.size))
        have HM5 := hid (HM4.out.below b5)
        clear b5 HB4
        go_wp2_with fail
        refine (HMA.out _).mono ?_
        rintro e w6 ⟨V6, rfl, i6, b6⟩
        have HB6 := hid (HB5.out.trans (b6.mono HB5.out.size))
        have HM6 := hid (HM5.out.below b6)
        obtain ⟨a6, c6, rfl, _⟩ := i6.form
        rw [HML.out] at i6 ⊢
        have HJ6 := hid i6
        clear i6 b6 HB5
        go_wp2_with fail
        refine (same_any mt (by rw [HML.out]; omega) _ HJ6.out HM6.out).mono ?_
        rintro e w7 ⟨rfl, b7⟩
        have HB7 := hid (HB6.out.trans (b7.mono HB6.out.size))
        clear b7 HB6
        go_wp2_with fail
        refine (runs_any _).mono ?_
        rintro e w9 ⟨rfl, b9⟩
        have HB9 := hid (HB7.out.trans (b9.mono HB7.out.size))
        clear b9
        go_wp2_with fail
        go_ret
        exact ⟨rfl, HB9.out⟩
      have d1 : decide (0 ≤ m) = true := by simp; omega
      by_cases m1 : m ≤ 100
      · have d2 : decide (m ≤ 100) = true := by simp [m1]
        have d3 : decide (100 < m) = false := by simp; omega
        have e0 : str k (m + 1) s = mt := (if_neg m0 : met k m s = str k (m + 1) s).symm.trans HMT.out
        have E0 := hid e0
        clear e0
        go_wp2_with fail
        refine (rstripe_any k HZ.out (m + 1) s _).mono ?_
        rintro e w2 ⟨V2, rfl, i2, b2⟩
        rw [E0.out] at i2
        obtain ⟨a2, c2, rfl, _⟩ := i2.form
        rw [HML.out] at i2 ⊢
        have HI' := HI
        have HB' := HB
        clear HI HB
        have HI := hid (HI'.out.below b2)
        have HB := hid (HB'.out.trans (b2.mono HB'.out.size))
        have HM := hid i2
        clear HI' HB' i2 b2 m0 m1
        obtain ⟨w1, rfl⟩ : ∃ w1, w1 = w2 := ⟨_, rfl⟩
        go_wp2_with fail
        refine (stripe_any k HZ.out n s _).mono ?_
        rintro e w3 ⟨V3, rfl, i3, b3⟩
        rw [HL.out] at i3
        have HI3 := hid (HI.out.below b3)
        have HB3 := hid (HB.out.trans (b3.mono HB.out.size))
        obtain ⟨a3, c3, rfl, _⟩ := i3.form
        rw [← HN.out] at i3 ⊢
        have HJ3 := hid i3
        have HM3 := hid (HM.out.below b3)
        clear i3 b3 HI HB
        go_wp2_with fail
        refine (same_any l (by rw [← HN.out]; omega) _ HJ3.out HI3.out).mono ?_
        rintro e w4 ⟨rfl, b4⟩
        have HB4 := hid (HB3.out.trans (b4.mono HB3.out.size))
        have HM4 := hid (HM3.out.below b4)
        clear b4 HB3
        go_wp2_with fail
        refine (pos_any k HZ.out n s x _).mono ?_
        rintro e w5 ⟨rfl, b5⟩
        rw [HL.out, HP2.out]
        have HB5 := hid (HB4.out.trans (b5.mono HB4.out.size))
        have HM5 := hid (HM4.out.below b5)
        clear b5 HB4
        go_wp2_with fail
        refine (HMA.out _).mono ?_
        rintro e w6 ⟨V6, rfl, i6, b6⟩
        have HB6 := hid (HB5.out.trans (b6.mono HB5.out.size))
        have HM6 := hid (HM5.out.below b6)
        obtain ⟨a6, c6, rfl, _⟩ := i6.form
        rw [HML.out] at i6 ⊢
        have HJ6 := hid i6
        clear i6 b6 HB5
        go_wp2_with fail
        refine (same_any mt (by rw [HML.out]; omega) _ HJ6.out HM6.out).mono ?_
        rintro e w7 ⟨rfl, b7⟩
        have HB7 := hid (HB6.out.trans (b7.mono HB6.out.size))
        clear b7 HB6
        go_wp2_with fail
        refine (runs_any _).mono ?_
        rintro e w9 ⟨rfl, b9⟩
        have HB9 := hid (HB7.out.trans (b9.mono HB7.out.size))
        clear b9
        go_wp2_with fail
        go_ret
        exact ⟨rfl, HB9.out⟩
      · have d2 : decide (m ≤ 100) = false := by simp; omega
        have d3 : decide (100 < m) = true := by simp; omega
        clear m0 m1
        go_wp2_with fail
        refine (stripe_any k HZ.out n s _).mono ?_
        rintro e w3 ⟨V3, rfl, i3, b3⟩
        rw [HL.out] at i3
        have HI3 := hid (HI.out.below b3)
        have HB3 := hid (HB.out.trans (b3.mono HB.out.size))
        obtain ⟨a3, c3, rfl, _⟩ := i3.form
        rw [← HN.out] at i3 ⊢
        have HJ3 := hid i3
        clear i3 b3 HI HB
        go_wp2_with fail
        refine (same_any l (by rw [← HN.out]; omega) _ HJ3.out HI3.out).mono ?_
        rintro e w4 ⟨rfl, b4⟩
        have HB4 := hid (HB3.out.trans (b4.mono HB3.out.size))
        clear b4 HB3
        go_wp2_with fail
        refine (pos_any k HZ.out n s x _).mono ?_
        rintro e w5 ⟨rfl, b5⟩
        rw [HL.out, HP2.out]
        have HB5 := hid (HB4.out.trans (b5.mono HB4.out.size))
        clear b5 HB4
        go_wp2_with fail
        refine (runs_any _).mono ?_
        rintro e w9 ⟨rfl, b9⟩
        have HB9 := hid (HB5.out.trans (b9.mono HB5.out.size))
        clear b9
        go_wp2_with fail
        go_ret
        exact ⟨rfl, HB9.out⟩
theorem tells_walk (key : ByteArray) (hz : key.size ≤ 9223372036854775807) (n m s x : Int) (hsl : s ≤ 9223372036854775807) (w : World) : Calls Try.prog 4 #[.string key, .int .i64 n, .int .i64 m, .int .i64 s, .int .i64 x] w fun e w' => e = .returned (.bool true) ∧ Below w.heap.size w w' := by
  by_cases h : 500 < key.size
  · exact tells_b key hz h n m s x hsl w
  · exact tells_a key hz h n m s x hsl w
end Go.Proofs.Ytdnbpbkckdjbjaa
