/-
  The walk of the law GfPowers, over the contracts: powers come together by sums; two's come round at 255.
-/
import Derived.Test.YtadabbodjkdkdaaFieldWalk
import Derived.Test.YtadabbodjkdkdaaWithin
namespace Go.Proofs.Ytadabbodjkdkdaa
open Go.RowKit

set_option maxHeartbeats 1000000 in
theorem powers_any (x : Nat) (m n : Int) (hx : x < 256) (w : World) :
    Calls Try.prog 7 #[.int .u8 (x : Int), .int .i64 m, .int .i64 n] w fun e w' => e = .returned (.bool true) ∧ Below w.heap.size w w' := by
  have hz := zero25
  go_enter Try.func7, Try.ntmps7
  go_wp2_with fail
  refine (make_is w).mono ?_
  rintro e w1 ⟨T, hT, rfl, hb⟩
  have ht := hT.size
  have hst := store_tab hT w1
  go_wp2_with fail
  obtain ⟨b, W, eb, eW, hTab, hb1, hs, hB⟩ := tab_world hT hb
  rw [← eb, ← eW]
  clear hst ht hz eb eW hb hT
  refine (within_c m 0 2000 2000 rfl rfl (by decide) _).mono ?_
  rintro e w2 ⟨⟨i, hi, rfl⟩, rfl⟩
  go_wp2_with fail
  refine (within_c n 0 2000 2000 rfl rfl (by decide) _).mono ?_
  rintro e w2 ⟨⟨j, hj, rfl⟩, rfl⟩
  obtain ⟨A, hA⟩ : ∃ v, Gf.pw x i = v := ⟨_, rfl⟩
  obtain ⟨B, hB'⟩ : ∃ v, Gf.pw x j = v := ⟨_, rfl⟩
  obtain ⟨C, hC⟩ : ∃ v, Gf.mul A B = v := ⟨_, rfl⟩
  obtain ⟨U, hU⟩ : ∃ v, Gf.pw 2 i = v := ⟨_, rfl⟩
  obtain ⟨V, hV⟩ : ∃ v, Gf.pw 2 j = v := ⟨_, rfl⟩
  have lA : A < 256 := by rw [← hA]; exact Gf.pw_lt _ _
  have lB : B < 256 := by rw [← hB']; exact Gf.pw_lt _ _
  have e1 : Hid (((Gf.pw x i : Nat) : Int) = (A : Int)) := by show _ = _; rw [hA]
  have e2 : Hid (((Gf.pw x j : Nat) : Int) = (B : Int)) := by show _ = _; rw [hB']
  have e3 : Hid (((Gf.mul A B : Nat) : Int) = (C : Int)) := by show _ = _; rw [hC]
  have e4 : Hid (((Gf.pw x (i + j) : Nat) : Int) = (C : Int)) := by show _ = _; rw [← hC, ← hA, ← hB', Gf.pw_add]
  have e5 : Hid (((Gf.pw 2 i : Nat) : Int) = (U : Int)) := by show _ = _; rw [hU]
  have e6 : Hid (((Gf.pw 2 j : Nat) : Int) = (V : Int)) := by show _ = _; rw [hV]
  have u0 : ((U : Int) != 0) = true := by
    have := Gf.ex_pos i
    rw [Gf.pw_two] at hU
    simp; omega
  have uv : U = V ↔ i % 255 = j % 255 := by
    rw [← hU, ← hV, Gf.pw_two, Gf.pw_two]
    exact ⟨Gf.ex_inj, Gf.ex_congr⟩
  have hn : Hid ((i : Int) + (j : Int) = ((i + j : Nat) : Int)) := by show _ = _; omega
  obtain ⟨t, t1, t2⟩ : ∃ t, ((U : Int) == (V : Int)) = t ∧ (((i : Int) % 255) == ((j : Int) % 255)) = t := by
    by_cases h : i % 255 = j % 255
    · refine ⟨true, ?_, ?_⟩
      · rw [uv.2 h]; simp
      · simp; omega
    · refine ⟨false, ?_, ?_⟩
      · simp; exact fun e => h (uv.1 (by omega))
      · simp; omega
  clear hA hB' hC hU hV uv
  go_wp2_with fail
  refine (pow_c b x i _ _ _ rfl rfl e1.out hx _ hTab).mono ?_
  rintro e w2 ⟨rfl, n1, rfl⟩
  go_wp2_with fail
  refine (pow_c b x j _ _ _ rfl rfl e2.out hx _ (hTab.drewN _)).mono ?_
  rintro e w2 ⟨rfl, n2, rfl⟩
  go_wp2_with fail
  refine (mul_c b A B _ _ _ rfl rfl e3.out lA lB _ (hTab.drewN _)).mono ?_
  rintro e w2 ⟨rfl, n3, rfl⟩
  go_wp2_with fail
  refine (pow_c b 2 i 2 _ _ rfl rfl e5.out (by decide) _ (hTab.drewN _)).mono ?_
  rintro e w2 ⟨rfl, n4, rfl⟩
  go_wp2_with fail
  refine (pow_c b 2 j 2 _ _ rfl rfl e6.out (by decide) _ (hTab.drewN _)).mono ?_
  rintro e w2 ⟨rfl, n5, rfl⟩
  go_wp2_with fail
  refine (pow_c b x (i + j) _ _ _ rfl hn.out e4.out hx _ (hTab.drewN _)).mono ?_
  rintro e w2 ⟨rfl, n6, rfl⟩
  go_wp2_with fail
  refine (pow_c b 2 i 2 _ _ rfl rfl e5.out (by decide) _ (hTab.drewN _)).mono ?_
  rintro e w2 ⟨rfl, n7, rfl⟩
  go_wp2_with fail
  refine (runs_any _).mono ?_
  rintro e w2 ⟨rfl, hb2⟩
  go_wp2_with fail
  go_ret
  exact ⟨rfl, end_runs hB hb2⟩
end Go.Proofs.Ytadabbodjkdkdaa
