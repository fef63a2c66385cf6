/-
  The walk of the law GfField, over the contracts: of any three bytes: products are the same both ways, may be parted, go over sums; what isn't 0 gives 1 with its inverse.
-/
import Derived.Test.YtadabbodjkdkdaaRunsWalk
namespace Go.Proofs.Ytadabbodjkdkdaa
open Go.RowKit

theorem end_runs {w W w2 : World} {n : Nat} (hB : Below w.heap.size w W) (hb2 : Below (W.drewN n).heap.size (W.drewN n) w2) : Below w.heap.size w w2 :=
  (below_drewN hB n).trans (hb2.mono (below_drewN hB n).size)

set_option maxHeartbeats 1000000 in
theorem field_any (x y z : Nat) (hx : x < 256) (hy : y < 256) (hz' : z < 256) (w : World) :
    Calls Try.prog 6 #[.int .u8 (x : Int), .int .u8 (y : Int), .int .u8 (z : Int)] w fun e w' => e = .returned (.bool true) ∧ Below w.heap.size w w' := by
  obtain ⟨AB, hAB⟩ : ∃ v, Gf.mul x y = v := ⟨_, rfl⟩
  obtain ⟨D, hD⟩ : ∃ v, Gf.mul AB z = v := ⟨_, rfl⟩
  obtain ⟨E, hE⟩ : ∃ v, Gf.mul y z = v := ⟨_, rfl⟩
  obtain ⟨F, hF⟩ : ∃ v, y ^^^ z = v := ⟨_, rfl⟩
  obtain ⟨G, hG⟩ : ∃ v, Gf.mul x F = v := ⟨_, rfl⟩
  obtain ⟨J, hJ⟩ : ∃ v, Gf.mul x z = v := ⟨_, rfl⟩
  obtain ⟨I, hI⟩ : ∃ v, Gf.inv x = v := ⟨_, rfl⟩
  have lAB : AB < 256 := by rw [← hAB]; exact Gf.mul_lt _ _
  have lE : E < 256 := by rw [← hE]; exact Gf.mul_lt _ _
  have lF : F < 256 := by rw [← hF]; exact Gf.xor_lt hy hz'
  have lJ : J < 256 := by rw [← hJ]; exact Gf.mul_lt _ _
  have lI : I < 256 := by rw [← hI]; exact Gf.inv_lt _
  have e1 : Hid (((Gf.mul x y : Nat) : Int) = (AB : Int)) := by show _ = _; rw [hAB]
  have e2 : Hid (((Gf.mul y x : Nat) : Int) = (AB : Int)) := by show _ = _; rw [Gf.mul_comm, hAB]
  have e3 : Hid (((Gf.mul AB z : Nat) : Int) = (D : Int)) := by show _ = _; rw [hD]
  have e4 : Hid (((Gf.mul y z : Nat) : Int) = (E : Int)) := by show _ = _; rw [hE]
  have e5 : Hid (((Gf.mul x E : Nat) : Int) = (D : Int)) := by show _ = _; rw [← hE, ← Gf.mul_assoc hx hy hz', hAB, hD]
  have e6 : Hid (((Gf.mul x F : Nat) : Int) = (G : Int)) := by show _ = _; rw [hG]
  have e7 : Hid (((Gf.mul x z : Nat) : Int) = (J : Int)) := by show _ = _; rw [hJ]
  have e8 : Hid (((Gf.mul x 1 : Nat) : Int) = (x : Int)) := by show _ = _; rw [Gf.mul_one hx]
  have e9 : Hid (((Gf.mul x 0 : Nat) : Int) = 0) := by show _ = _; rw [Gf.mul_zero]; rfl
  have e10 : Hid (((Gf.inv x : Nat) : Int) = (I : Int)) := by show _ = _; rw [hI]
  have e11 : x ≠ 0 → Hid (((Gf.mul x I : Nat) : Int) = 1) := fun h => by show _ = _; rw [← hI, Gf.mul_inv hx h]; rfl
  have e12 : x ≠ 0 → Hid (((Gf.mul AB (Gf.inv x) : Nat) : Int) = (y : Int)) := fun h => by
    show _ = _; rw [← hAB, Gf.mul_comm x y, Gf.mul_assoc hy hx (Gf.inv_lt x), Gf.mul_inv hx h, Gf.mul_one hy]
  have x1 : bits .xor .u8 (y : Int) (z : Int) = (F : Int) := by rw [xor_u8 y z hy hz', hF]
  have x2 : bits .xor .u8 (AB : Int) (J : Int) = (G : Int) := by rw [xor_u8 AB J lAB lJ, ← hAB, ← hJ, ← Gf.mul_xor hx hy hz', hF, hG]
  have o1 : (1 : Int) = ((1 : Nat) : Int) := rfl
  have z0 := Gf.mul_eq_zero x y
  rw [hAB] at z0
  clear hAB hD hE hF hG hJ hI o1
  by_cases x0 : x = 0
  · have b1 : ((x : Int) == 0) = true := by simp; omega
    have b2 : ((AB : Int) == 0) = true := by simp; omega
    clear x0 z0 e11 e12
    have hz := zero25
    go_enter Try.func6, Try.ntmps6
    go_wp2_with fail
    refine (make_is w).mono ?_
    rintro e w1 ⟨T, hT, rfl, hb⟩
    have ht := hT.size
    have hst := store_tab hT w1
    go_wp2_with fail
    obtain ⟨b, W, eb, eW, hTab, hb1, hs, hB⟩ := tab_world hT hb
    rw [← eb, ← eW]
    clear hst ht hz eb eW hb hT
    refine (mul_c b x y _ _ _ rfl rfl e1.out hx hy W hTab).mono ?_
    rintro e w2 ⟨rfl, n1, rfl⟩
    go_wp2_with fail
    refine (mul_c b y x _ _ _ rfl rfl e2.out hy hx _ (hTab.drewN _)).mono ?_
    rintro e w2 ⟨rfl, n2, rfl⟩
    go_wp2_with fail
    refine (mul_c b AB z _ _ _ rfl rfl e3.out lAB hz' _ (hTab.drewN _)).mono ?_
    rintro e w2 ⟨rfl, n3, rfl⟩
    go_wp2_with fail
    refine (mul_c b y z _ _ _ rfl rfl e4.out hy hz' _ (hTab.drewN _)).mono ?_
    rintro e w2 ⟨rfl, n4, rfl⟩
    go_wp2_with fail
    refine (mul_c b x E _ _ _ rfl rfl e5.out hx lE _ (hTab.drewN _)).mono ?_
    rintro e w2 ⟨rfl, n5, rfl⟩
    go_wp2_with fail
    refine (mul_c b x F _ _ _ rfl rfl e6.out hx lF _ (hTab.drewN _)).mono ?_
    rintro e w2 ⟨rfl, n6, rfl⟩
    go_wp2_with fail
    refine (mul_c b x z _ _ _ rfl rfl e7.out hx hz' _ (hTab.drewN _)).mono ?_
    rintro e w2 ⟨rfl, n7, rfl⟩
    go_wp2_with fail
    refine (mul_c b x 1 _ 1 _ rfl rfl e8.out hx (by decide) _ (hTab.drewN _)).mono ?_
    rintro e w2 ⟨rfl, n8, rfl⟩
    go_wp2_with fail
    refine (mul_c b x 0 _ 0 _ rfl rfl e9.out hx (by decide) _ (hTab.drewN _)).mono ?_
    rintro e w2 ⟨rfl, n9, rfl⟩
    go_wp2_with fail
    refine (runs_any _).mono ?_
    rintro e w2 ⟨rfl, hb2⟩
    go_wp2_with fail
    go_ret
    exact ⟨rfl, end_runs hB hb2⟩
  by_cases y0 : y = 0
  · have b1 : ((x : Int) == 0) = false := by simp; omega
    have b2 : ((AB : Int) == 0) = true := by simp; omega
    have b3 : ((y : Int) == 0) = true := by simp; omega
    have E11 : Hid (((Gf.mul x I : Nat) : Int) = 1) := e11 x0
    have E12 : Hid (((Gf.mul AB (Gf.inv x) : Nat) : Int) = (y : Int)) := e12 x0
    clear x0 y0 z0 e11 e12
    have hz := zero25
    go_enter Try.func6, Try.ntmps6
    go_wp2_with fail
    refine (make_is w).mono ?_
    rintro e w1 ⟨T, hT, rfl, hb⟩
    have ht := hT.size
    have hst := store_tab hT w1
    go_wp2_with fail
    obtain ⟨b, W, eb, eW, hTab, hb1, hs, hB⟩ := tab_world hT hb
    rw [← eb, ← eW]
    clear hst ht hz eb eW hb hT
    refine (mul_c b x y _ _ _ rfl rfl e1.out hx hy W hTab).mono ?_
    rintro e w2 ⟨rfl, n1, rfl⟩
    go_wp2_with fail
    refine (mul_c b y x _ _ _ rfl rfl e2.out hy hx _ (hTab.drewN _)).mono ?_
    rintro e w2 ⟨rfl, n2, rfl⟩
    go_wp2_with fail
    refine (mul_c b AB z _ _ _ rfl rfl e3.out lAB hz' _ (hTab.drewN _)).mono ?_
    rintro e w2 ⟨rfl, n3, rfl⟩
    go_wp2_with fail
    refine (mul_c b y z _ _ _ rfl rfl e4.out hy hz' _ (hTab.drewN _)).mono ?_
    rintro e w2 ⟨rfl, n4, rfl⟩
    go_wp2_with fail
    refine (mul_c b x E _ _ _ rfl rfl e5.out hx lE _ (hTab.drewN _)).mono ?_
    rintro e w2 ⟨rfl, n5, rfl⟩
    go_wp2_with fail
    refine (mul_c b x F _ _ _ rfl rfl e6.out hx lF _ (hTab.drewN _)).mono ?_
    rintro e w2 ⟨rfl, n6, rfl⟩
    go_wp2_with fail
    refine (mul_c b x z _ _ _ rfl rfl e7.out hx hz' _ (hTab.drewN _)).mono ?_
    rintro e w2 ⟨rfl, n7, rfl⟩
    go_wp2_with fail
    refine (mul_c b x 1 _ 1 _ rfl rfl e8.out hx (by decide) _ (hTab.drewN _)).mono ?_
    rintro e w2 ⟨rfl, n8, rfl⟩
    go_wp2_with fail
    refine (mul_c b x 0 _ 0 _ rfl rfl e9.out hx (by decide) _ (hTab.drewN _)).mono ?_
    rintro e w2 ⟨rfl, n9, rfl⟩
    go_wp2_with fail
    refine (inv_c b x _ _ rfl e10.out hx _ (hTab.drewN _)).mono ?_
    rintro e w2 ⟨rfl, n10, rfl⟩
    go_wp2_with fail
    refine (mul_c b x I _ _ _ rfl rfl E11.out hx lI _ (hTab.drewN _)).mono ?_
    rintro e w2 ⟨rfl, n11, rfl⟩
    go_wp2_with fail
    refine (div_c b AB x _ _ _ rfl rfl E12.out lAB hx _ (hTab.drewN _)).mono ?_
    rintro e w2 ⟨rfl, n12, rfl⟩
    go_wp2_with fail
    refine (runs_any _).mono ?_
    rintro e w2 ⟨rfl, hb2⟩
    go_wp2_with fail
    go_ret
    exact ⟨rfl, end_runs hB hb2⟩
  · have b1 : ((x : Int) == 0) = false := by simp; omega
    have b2 : ((AB : Int) == 0) = false := by simp; omega
    have b3 : ((y : Int) == 0) = false := by simp; omega
    have E11 : Hid (((Gf.mul x I : Nat) : Int) = 1) := e11 x0
    have E12 : Hid (((Gf.mul AB (Gf.inv x) : Nat) : Int) = (y : Int)) := e12 x0
    clear x0 y0 z0 e11 e12
    have hz := zero25
    go_enter Try.func6, Try.ntmps6
    go_wp2_with fail
    refine (make_is w).mono ?_
    rintro e w1 ⟨T, hT, rfl, hb⟩
    have ht := hT.size
    have hst := store_tab hT w1
    go_wp2_with fail
    obtain ⟨b, W, eb, eW, hTab, hb1, hs, hB⟩ := tab_world hT hb
    rw [← eb, ← eW]
    clear hst ht hz eb eW hb hT
    refine (mul_c b x y _ _ _ rfl rfl e1.out hx hy W hTab).mono ?_
    rintro e w2 ⟨rfl, n1, rfl⟩
    go_wp2_with fail
    refine (mul_c b y x _ _ _ rfl rfl e2.out hy hx _ (hTab.drewN _)).mono ?_
    rintro e w2 ⟨rfl, n2, rfl⟩
    go_wp2_with fail
    refine (mul_c b AB z _ _ _ rfl rfl e3.out lAB hz' _ (hTab.drewN _)).mono ?_
    rintro e w2 ⟨rfl, n3, rfl⟩
    go_wp2_with fail
    refine (mul_c b y z _ _ _ rfl rfl e4.out hy hz' _ (hTab.drewN _)).mono ?_
    rintro e w2 ⟨rfl, n4, rfl⟩
    go_wp2_with fail
    refine (mul_c b x E _ _ _ rfl rfl e5.out hx lE _ (hTab.drewN _)).mono ?_
    rintro e w2 ⟨rfl, n5, rfl⟩
    go_wp2_with fail
    refine (mul_c b x F _ _ _ rfl rfl e6.out hx lF _ (hTab.drewN _)).mono ?_
    rintro e w2 ⟨rfl, n6, rfl⟩
    go_wp2_with fail
    refine (mul_c b x z _ _ _ rfl rfl e7.out hx hz' _ (hTab.drewN _)).mono ?_
    rintro e w2 ⟨rfl, n7, rfl⟩
    go_wp2_with fail
    refine (mul_c b x 1 _ 1 _ rfl rfl e8.out hx (by decide) _ (hTab.drewN _)).mono ?_
    rintro e w2 ⟨rfl, n8, rfl⟩
    go_wp2_with fail
    refine (mul_c b x 0 _ 0 _ rfl rfl e9.out hx (by decide) _ (hTab.drewN _)).mono ?_
    rintro e w2 ⟨rfl, n9, rfl⟩
    go_wp2_with fail
    refine (inv_c b x _ _ rfl e10.out hx _ (hTab.drewN _)).mono ?_
    rintro e w2 ⟨rfl, n10, rfl⟩
    go_wp2_with fail
    refine (mul_c b x I _ _ _ rfl rfl E11.out hx lI _ (hTab.drewN _)).mono ?_
    rintro e w2 ⟨rfl, n11, rfl⟩
    go_wp2_with fail
    refine (div_c b AB x _ _ _ rfl rfl E12.out lAB hx _ (hTab.drewN _)).mono ?_
    rintro e w2 ⟨rfl, n12, rfl⟩
    go_wp2_with fail
    refine (runs_any _).mono ?_
    rintro e w2 ⟨rfl, hb2⟩
    go_wp2_with fail
    go_ret
    exact ⟨rfl, end_runs hB hb2⟩
end Go.Proofs.Ytadabbodjkdkdaa
