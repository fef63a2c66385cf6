/-
  PLACEMETAS walked.
-/
import Derived.Test.YtdnbpbkckdjbjaaOne
namespace Go.Proofs.Ytdnbpbkckdjbjaa
open Go.RowKit

set_option maxRecDepth 100000 in
set_option maxHeartbeats 2000000 in
theorem metas_a (key : ByteArray) (hz : key.size ≤ 9223372036854775807) (hs : ¬ 500 < key.size) (K0 M0 S0 : Int) (w : World) : Calls Try.prog 6 #[.string key, .int .i64 K0, .int .i64 M0, .int .i64 S0] w fun e w' => e = .returned (.bool true) ∧ Below w.heap.size w w' := by
  have hi1 : decide ((500 : Int) < (key.size : Int)) = false := by simp; omega
  have hz2 : key.size ≤ 140737488355328 := by omega
  clear hs
  go_enter Try.func6, Try.ntmps6
  go_wp2_with fail
  obtain ⟨k, hk⟩ : ∃ k, k = key := ⟨_, rfl⟩
  rw [← hk] at hz2 ⊢
  clear hk hi1 hz
  have HZ := hid hz2
  refine (within_any S0 1 12 (by omega) (by omega) (by omega) _).mono ?_
  rintro e w1 ⟨rfl, rfl⟩
  obtain ⟨b1, b2⟩ := wi_bd S0 1 12 (by omega)
  obtain ⟨S, hS⟩ : ∃ S : Nat, wi S0 1 12 = (S : Int) := ⟨(wi S0 1 12).toNat, by omega⟩
  rw [hS] at b1 b2 ⊢
  clear hS
  go_wp2_with fail
  refine (within_any K0 1 (S : Int) (by omega) (by omega) (by omega) _).mono ?_
  rintro e w1 ⟨rfl, rfl⟩
  obtain ⟨b3, b4⟩ := wi_bd K0 1 (S : Int) (by omega)
  obtain ⟨A, hA⟩ : ∃ A : Nat, wi K0 1 (S : Int) = (A : Int) := ⟨(wi K0 1 (S : Int)).toNat, by omega⟩
  rw [hA] at b3 b4 ⊢
  clear hA
  go_wp2_with fail
  refine (within_any M0 0 ((S : Int) - (A : Int)) (by omega) (by omega) (by omega) _).mono ?_
  rintro e w1 ⟨rfl, rfl⟩
  obtain ⟨b5, b6⟩ := wi_bd M0 0 ((S : Int) - (A : Int)) (by omega)
  obtain ⟨B, hB⟩ : ∃ B : Nat, wi M0 0 ((S : Int) - (A : Int)) = (B : Int) := ⟨(wi M0 0 ((S : Int) - (A : Int))).toNat, by omega⟩
  rw [hB] at b5 b6 ⊢
  clear hB
  have hB1 : B + 1 ≤ S := by omega
  have hAB : A + B ≤ S := by omega
  have hBA : B + 1 ≤ A + B := by omega
  have hS12 : S ≤ 12 := by omega
  have hS1 : 1 ≤ S := by omega
  have em : Hid (met k (B : Int) (S : Int) = stl k (B + 1) S) := by
    show met _ _ _ = _
    unfold met
    rw [if_neg (by omega)]
    exact str_yes k (N := B + 1) hS1 hS12 hB1
  have eb : ((B : Int) + 1 == (B : Int) + 1) = true := by simp
  have eb2 : (((B + 1 : Nat) : Int) == (B : Int) + 1) = true := by simp
  have eab : (((A + B : Nat) : Int) == (A : Int) + (B : Int)) = true := by simp
  go_wp2_with fail
  refine (metas_any k HZ.out (B : Int) (S : Int) (by omega) _).mono ?_
  rintro e w2 ⟨V, rfl, i2, c2⟩
  rw [em.out] at i2
  obtain ⟨a2, p2, rfl, _⟩ := i2.form
  rw [stl_length] at i2 ⊢
  have HI := hid i2
  have HB := hid c2
  clear i2 c2
  go_wp2_with fail
  have es := stripe_yes k HZ.out (A + B) S hS1 hS12 hAB w2
  rw [Int.natCast_add] at es
  refine es.mono ?_
  clear es
  rintro e w3 ⟨V, rfl, i3, c3⟩
  obtain ⟨a3, p3, rfl, hp3⟩ := i3.form
  rw [stl_length] at i3 hp3 ⊢
  have HI3 := hid (HI.out.below c3)
  have HJ := hid i3
  have HB3 := hid (HB.out.trans (c3.mono HB.out.size))
  have HC := hid ((by rw [stl_take k hBA]; exact id : IR w3 (.slice a3 (B + 1) p3) ((stl k (A + B) S).take (B + 1)) → IR w3 (.slice a3 (B + 1) p3) (stl k (B + 1) S)) (i3.cut (B + 1) hBA))
  obtain ⟨g, rfl, _⟩ := i3.read (j := 0) (stl_at k (by omega))
  clear i3 c3 HI HB
  have hcut : ∀ w, (Instr.sliceAt 22 (.slice (some ⟨g, 0, none⟩) (A + B) p3) none (some (.int .i64 ((B : Int) + 1))) none).run Try.prog w = .ok (.slice (some ⟨g, 0, none⟩) (B + 1) p3) w := fun w => slice_hiT g (A + B) p3 (B + 1) (by omega) w
  go_wp2_with fail
  refine (same_any (stl k (B + 1) S) (by rw [stl_length]; omega) _ HC.out HI3.out).mono ?_
  rintro e w4 ⟨rfl, c4⟩
  have HI4 := hid (HI3.out.below c4)
  have HB4 := hid (HB3.out.trans (c4.mono HB3.out.size))
  clear c4 HI3 HB3 HC HJ
  go_wp2_with fail
  refine (metas_any k HZ.out (B : Int) (S : Int) (by omega) _).mono ?_
  rintro e w5 ⟨V, rfl, i5, c5⟩
  rw [em.out] at i5
  obtain ⟨a5, p5, rfl, _⟩ := i5.form
  rw [stl_length] at i5 ⊢
  have HJ5 := hid i5
  have HI5 := hid (HI4.out.below c5)
  have HB5 := hid (HB4.out.trans (c5.mono HB4.out.size))
  clear i5 c5 HI4 HB4
  go_wp2_with fail
  refine (same_any (stl k (B + 1) S) (by rw [stl_length]; omega) _ HJ5.out HI5.out).mono ?_
  rintro e w6 ⟨rfl, c6⟩
  have HB6 := hid (HB5.out.trans (c6.mono HB5.out.size))
  clear c6 HI5 HJ5 HB5
  go_wp2_with fail
  refine (runs_any _).mono ?_
  rintro e w9 ⟨rfl, b9⟩
  have HB9 := hid (HB6.out.trans (b9.mono HB6.out.size))
  clear b9
  go_wp2_with fail
  go_ret
  exact ⟨rfl, HB9.out⟩
set_option maxRecDepth 100000 in
set_option maxHeartbeats 2000000 in
theorem metas_b (key : ByteArray) (hz : key.size ≤ 9223372036854775807) (hs : 500 < key.size) (K0 M0 S0 : Int) (w : World) : Calls Try.prog 6 #[.string key, .int .i64 K0, .int .i64 M0, .int .i64 S0] w fun e w' => e = .returned (.bool true) ∧ Below w.heap.size w w' := by
  have hi1 : (500 : Int) < (key.size : Int) := by omega
  have hz2 : (key.extract 0 500).size ≤ 140737488355328 := by rw [ByteArray.size_extract]; omega
  clear hs
  go_enter Try.func6, Try.ntmps6
  go_wp2_with fail
  obtain ⟨k, hk⟩ : ∃ k, k = key.extract 0 500 := ⟨_, rfl⟩
  rw [← hk] at hz2 ⊢
  clear hk hi1 hz
  have HZ := hid hz2
  refine (within_any S0 1 12 (by omega) (by omega) (by omega) _).mono ?_
  rintro e w1 ⟨rfl, rfl⟩
  obtain ⟨b1, b2⟩ := wi_bd S0 1 12 (by omega)
  obtain ⟨S, hS⟩ : ∃ S : Nat, wi S0 1 12 = (S : Int) := ⟨(wi S0 1 12).toNat, by omega⟩
  rw [hS] at b1 b2 ⊢
  clear hS
  go_wp2_with fail
  refine (within_any K0 1 (S : Int) (by omega) (by omega) (by omega) _).mono ?_
  rintro e w1 ⟨rfl, rfl⟩
  obtain ⟨b3, b4⟩ := wi_bd K0 1 (S : Int) (by omega)
  obtain ⟨A, hA⟩ : ∃ A : Nat, wi K0 1 (S : Int) = (A : Int) := ⟨(wi K0 1 (S : Int)).toNat, by omega⟩
  rw [hA] at b3 b4 ⊢
  clear hA
  go_wp2_with fail
  refine (within_any M0 0 ((S : Int) - (A : Int)) (by omega) (by omega) (by omega) _).mono ?_
  rintro e w1 ⟨rfl, rfl⟩
  obtain ⟨b5, b6⟩ := wi_bd M0 0 ((S : Int) - (A : Int)) (by omega)
  obtain ⟨B, hB⟩ : ∃ B : Nat, wi M0 0 ((S : Int) - (A : Int)) = (B : Int) := ⟨(wi M0 0 ((S : Int) - (A : Int))).toNat, by omega⟩
  rw [hB] at b5 b6 ⊢
  clear hB
  have hB1 : B + 1 ≤ S := by omega
  have hAB : A + B ≤ S := by omega
  have hBA : B + 1 ≤ A + B := by omega
  have hS12 : S ≤ 12 := by omega
  have hS1 : 1 ≤ S := by omega
  have em : Hid (met k (B : Int) (S : Int) = stl k (B + 1) S) := by
    show met _ _ _ = _
    unfold met
    rw [if_neg (by omega)]
    exact str_yes k (N := B + 1) hS1 hS12 hB1
  have eb : ((B : Int) + 1 == (B : Int) + 1) = true := by simp
  have eb2 : (((B + 1 : Nat) : Int) == (B : Int) + 1) = true := by simp
  have eab : (((A + B : Nat) : Int) == (A : Int) + (B : Int)) = true := by simp
  go_wp2_with fail
  refine (metas_any k HZ.out (B : Int) (S : Int) (by omega) _).mono ?_
  rintro e w2 ⟨V, rfl, i2, c2⟩
  rw [em.out] at i2
  obtain ⟨a2, p2, rfl, _⟩ := i2.form
  rw [stl_length] at i2 ⊢
  have HI := hid i2
  have HB := hid c2
  clear i2 c2
  go_wp2_with fail
  have es := stripe_yes k HZ.out (A + B) S hS1 hS12 hAB w2
  rw [Int.natCast_add] at es
  refine es.mono ?_
  clear es
  rintro e w3 ⟨V, rfl, i3, c3⟩
  obtain ⟨a3, p3, rfl, hp3⟩ := i3.form
  rw [stl_length] at i3 hp3 ⊢
  have HI3 := hid (HI.out.below c3)
  have HJ := hid i3
  have HB3 := hid (HB.out.trans (c3.mono HB.out.size))
  have HC := hid ((by rw [stl_take k hBA]; exact id : IR w3 (.slice a3 (B + 1) p3) ((stl k (A + B) S).take (B + 1)) → IR w3 (.slice a3 (B + 1) p3) (stl k (B + 1) S)) (i3.cut (B + 1) hBA))
  obtain ⟨g, rfl, _⟩ := i3.read (j := 0) (stl_at k (by omega))
  clear i3 c3 HI HB
  have hcut : ∀ w, (Instr.sliceAt 22 (.slice (some ⟨g, 0, none⟩) (A + B) p3) none (some (.int .i64 ((B : Int) + 1))) none).run Try.prog w = .ok (.slice (some ⟨g, 0, none⟩) (B + 1) p3) w := fun w => slice_hiT g (A + B) p3 (B + 1) (by omega) w
  go_wp2_with fail
  refine (same_any (stl k (B + 1) S) (by rw [stl_length]; omega) _ HC.out HI3.out).mono ?_
  rintro e w4 ⟨rfl, c4⟩
  have HI4 := hid (HI3.out.below c4)
  have HB4 := hid (HB3.out.trans (c4.mono HB3.out.size))
  clear c4 HI3 HB3 HC HJ
  go_wp2_with fail
  refine (metas_any k HZ.out (B : Int) (S : Int) (by omega) _).mono ?_
  rintro e w5 ⟨V, rfl, i5, c5⟩
  rw [em.out] at i5
  obtain ⟨a5, p5, rfl, _⟩ := i5.form
  rw [stl_length] at i5 ⊢
  have HJ5 := hid i5
  have HI5 := hid (HI4.out.below c5)
  have HB5 := hid (HB4.out.trans (c5.mono HB4.out.size))
  clear i5 c5 HI4 HB4
  go_wp2_with fail
  refine (same_any (stl k (B + 1) S) (by rw [stl_length]; omega) _ HJ5.out HI5.out).mono ?_
  rintro e w6 ⟨rfl, c6⟩
  have HB6 := hid (HB5.out.trans (c6.mono HB5.out.size))
  clear c6 HI5 HJ5 HB5
  go_wp2_with fail
  refine (runs_any _).mono ?_
  rintro e w9 ⟨rfl, b9⟩
  have HB9 := hid (HB6.out.trans (b9.mono HB6.out.size))
  clear b9
  go_wp2_with fail
  go_ret
  exact ⟨rfl, HB9.out⟩
theorem metas_walk (key : ByteArray) (hz : key.size ≤ 9223372036854775807) (k m s : Int) (w : World) : Calls Try.prog 6 #[.string key, .int .i64 k, .int .i64 m, .int .i64 s] w fun e w' => e = .returned (.bool true) ∧ Below w.heap.size w w' := by
  by_cases h : 500 < key.size
  · exact metas_b key hz h k m s w
  · exact metas_a key hz h k m s w
end Go.Proofs.Ytdnbpbkckdjbjaa
