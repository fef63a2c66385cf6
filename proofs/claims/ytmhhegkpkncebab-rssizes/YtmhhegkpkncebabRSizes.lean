/-
  SIZES: k fragments hold the value and fewer than k bytes more: the law's walk.
-/
import Derived.Test.YtmhhegkpkncebabShort
namespace Go.Proofs.Ytmhhegkpkncebab
open Go.RowKit

theorem szk_mono (k x : Nat) : szk k x ≤ szk k (x + 1) := by
  unfold szk; exact Nat.div_le_div_right (by omega)
theorem szk_add (k x : Nat) (hk : 1 ≤ k) : szk k (x + k) = szk k x + 1 := by
  unfold szk
  rw [show x + k + k - 1 = (x + k - 1) + k by omega, Nat.add_div_right _ (by omega)]

set_option maxHeartbeats 4000000 in
set_option maxRecDepth 100000 in
theorem sizes_walk (a0 a1 : Int) (a2 : ByteArray) (a3 : Int) (w : World) :
    Calls Try.prog 3 #[.int .i64 a0, .int .i64 a1, .string a2, .int .i64 a3] w fun e w' => e = .returned (.bool true) ∧ Below w.heap.size w w' := by
  go_enter Try.func3, Try.ntmps3
  go_wp2_with fail
  refine (within_l a0 _ _ 1 8 rfl rfl (by decide) (by decide) _).mono ?_
  rintro e w1 ⟨⟨k, hk1, hk, rfl⟩, rfl⟩
  go_wp2_with fail
  refine (within_0 a1 _ _ (12 - k) rfl (by omega) (by omega) _).mono ?_
  rintro e w1 ⟨⟨m, hm, rfl⟩, rfl⟩
  go_wp2_with fail
  refine (new_any k m _ _ rfl rfl hk1 hk (by omega) _).mono ?_
  rintro e w1 ⟨b, rfl, hC1, hb1⟩
  have HC1 : Hid (IsCode w1 b k (k + m)) := hC1
  have HB1 : Hid (Below w.heap.size w w1) := hb1
  clear hC1 hb1
  go_wp2_with fail
  refine (short_any a2 200 _ rfl _).mono ?_
  rintro e w2 ⟨v, rfl, hv, rfl⟩
  go_wp2_with fail
  refine (encode_any b k (k + m) v hk1 hk (by omega) (by omega) _ HC1.out).mono ?_
  rintro e w2 ⟨G, rfl, hG, OG, hb2⟩
  have HO : Hid (OwnS w2 G (k + m) (fragS k v) (k + m)) := OG
  have HC2 : Hid (IsCode w2 b k (k + m)) := HC1.out.up hb2
  have HB2 : Hid (Below w.heap.size w w2) := HB1.out.trans (hb2.mono HB1.out.size)
  clear OG hb2 HC1 HB1 hG
  go_wp2_with fail
  refine (size_any b k (k + m) v.size _ rfl hk1 hk (by omega) _ HC2.out).mono ?_
  rintro e w3 ⟨rfl, rfl⟩
  have hsz := szk_le k v.size hk1
  obtain ⟨S, eS⟩ : ∃ S, S = szk k v.size := ⟨_, rfl⟩
  rw [← eS] at hsz ⊢
  have ES : Hid (S = szk k v.size) := eS
  have hSk : S * k = k * S := Nat.mul_comm S k
  obtain ⟨M, eM⟩ : ∃ M, M = k * S := ⟨_, rfl⟩
  rw [← eM] at hSk hsz
  have q0 : wrap64 ((S : Int) * (k : Int)) = (M : Int) := by
    rw [show (S : Int) * (k : Int) = (M : Int) by rw [← hSk]; simp]
    clear eM hSk
    unfold wrap64; omega
  have q1 : decide ((v.size : Int) ≤ wrap64 ((S : Int) * (k : Int))) = true := by rw [q0]; clear q0; simp; omega
  have q2 : decide (wrap64 ((S : Int) * (k : Int)) < (v.size : Int) + (k : Int)) = true := by rw [q0]; clear q0 q1; simp; omega
  clear eM eS hSk hsz q0
  go_wp2_with fail
  go_loopw [15] (fun i wr => ∃ t : Nat, t ≤ k + m ∧ i = .int .i64 (t : Int) ∧ wr = w2) (fun i _ => k + m - (intOf i).toNat)
  case atStart => exact ⟨0, by omega, rfl, rfl⟩
  case round =>
    obtain ⟨t, ht, rfl, rfl⟩ := hrel
    by_cases hlt : t < k + m
    · have hi1 : (t : Int) < (k : Int) + (m : Int) := by omega
      have d1 := ownS_at HO.out hlt
      have hs : (fragS k v t).size = S := by rw [fragS_size, ES.out]
      have ne : ((S : Int) != (S : Int)) = false := by simp
      clear q1 q2
      go_wp2_with fail
      exact ⟨⟨t + 1, by omega, by go_num, trivial⟩, by simp [intOf]; omega⟩
    · have i1 : decide ((t : Int) < (k : Int) + (m : Int)) = false := by simp; omega
      go_wp2_with fail
      refine (within_0 a3 _ _ 1048576 rfl rfl (by decide) _).mono ?_
      rintro e w3 ⟨⟨x, hx, rfl⟩, rfl⟩
      go_wp2_with fail
      refine (n_any b k (k + m) _ HC2.out).mono ?_
      rintro e w3 ⟨rfl, rfl⟩
      go_wp2_with fail
      refine (size_any b k (k + m) x _ rfl hk1 hk (by omega) _ HC2.out).mono ?_
      rintro e w3 ⟨rfl, rfl⟩
      have hmono := szk_mono k x
      have hadd := szk_add k x hk1
      obtain ⟨s0, e0⟩ : ∃ s0, s0 = szk k x := ⟨_, rfl⟩
      obtain ⟨s1, e1⟩ : ∃ s1, s1 = szk k (x + 1) := ⟨_, rfl⟩
      have hs0 : s0 ≤ 1048583 := by rw [e0]; exact szk_small hk1 hx
      rw [← e0, ← e1] at hmono
      rw [← e0] at hadd ⊢
      have E0 : Hid (s0 = szk k x) := e0
      have E1 : Hid (s1 = szk k (x + 1)) := e1
      have EA : Hid (szk k (x + k) = s0 + 1) := hadd
      have hm1 : (s0 : Int) ≤ (s1 : Int) := by omega
      clear e0 e1 hadd
      go_wp2_with fail
      refine (size_any b k (k + m) (x + 1) _ (by omega) hk1 hk (by omega) _ HC2.out).mono ?_
      rintro e w3 ⟨rfl, rfl⟩
      rw [← E1.out]
      go_wp2_with fail
      refine (size_any b k (k + m) (x + k) _ (by omega) hk1 hk (by omega) _ HC2.out).mono ?_
      rintro e w3 ⟨rfl, rfl⟩
      rw [EA.out]
      go_wp2_with fail
      refine (size_any b k (k + m) x _ rfl hk1 hk (by omega) _ HC2.out).mono ?_
      rintro e w3 ⟨rfl, rfl⟩
      rw [← E0.out]
      go_wp2_with fail
      refine (rruns_any _).mono ?_
      rintro e w4 ⟨rfl, hb4⟩
      have HB4 : Hid (Below w.heap.size w w4) := HB2.out.trans (hb4.mono HB2.out.size)
      clear hb4
      go_wp2_with fail
      go_ret
      exact ⟨rfl, HB4.out⟩
end Go.Proofs.Ytmhhegkpkncebab
