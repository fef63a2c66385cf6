/-
  THE CHAPTER's RUNS: the closed law's walk, over the contracts.
-/
import Derived.Test.YtadabbodjkdkdaaDot
namespace Go.Proofs.Ytadabbodjkdkdaa
open Go.RowKit

theorem mul_c (b x y : Nat) (X Y R : Int) (hX : X = (x : Int)) (hY : Y = (y : Int)) (hR : ((Gf.mul x y : Nat) : Int) = R) (hx : x < 256) (hy : y < 256) (w : World) (hT : HasTab w b) :
    Calls Try.prog 10 #[.pointer (some ⟨b, 0, none⟩), .int .u8 X, .int .u8 Y] w fun e w' => e = .returned (.int .u8 R) ∧ ∃ n, w' = w.drewN n := by
  subst hX hY hR; exact mul_any b x y hx hy w hT
theorem inv_c (b x : Nat) (X R : Int) (hX : X = (x : Int)) (hR : ((Gf.inv x : Nat) : Int) = R) (hx : x < 256) (w : World) (hT : HasTab w b) :
    Calls Try.prog 11 #[.pointer (some ⟨b, 0, none⟩), .int .u8 X] w fun e w' => e = .returned (.int .u8 R) ∧ ∃ n, w' = w.drewN n := by
  subst hX hR; exact inv_any b x hx w hT
theorem pow_c (b x n : Nat) (X N R : Int) (hX : X = (x : Int)) (hN : N = (n : Int)) (hR : ((Gf.pw x n : Nat) : Int) = R) (hx : x < 256) (w : World) (hT : HasTab w b) :
    Calls Try.prog 12 #[.pointer (some ⟨b, 0, none⟩), .int .u8 X, .int .i64 N] w fun e w' => e = .returned (.int .u8 R) ∧ ∃ n, w' = w.drewN n := by
  subst hX hN hR; exact pow_any b x n hx w hT
theorem pow_neg_c (b x : Nat) (X N : Int) (hX : X = (x : Int)) (hN : N < 0) (w : World) :
    Calls Try.prog 12 #[.pointer (some ⟨b, 0, none⟩), .int .u8 X, .int .i64 N] w fun e w' => e = .returned (.int .u8 0) ∧ ∃ n, w' = w.drewN n := by
  subst hX; exact pow_neg b x N hN w
theorem div_c (b x y : Nat) (X Y R : Int) (hX : X = (x : Int)) (hY : Y = (y : Int)) (hR : ((Gf.mul x (Gf.inv y) : Nat) : Int) = R) (hx : x < 256) (hy : y < 256) (w : World) (hT : HasTab w b) :
    Calls Try.prog 13 #[.pointer (some ⟨b, 0, none⟩), .int .u8 X, .int .u8 Y] w fun e w' => e = .returned (.int .u8 R) ∧ ∃ n, w' = w.drewN n := by
  subst hX hY hR; exact div_any b x y hx hy w hT

theorem zc_size : zc.size = 766 := by simp [zc]
/-- The tables, under a name that nothing lays open. -/
def IsTab (T : Array Value) : Prop := T = tab
theorem IsTab.size {T : Array Value} (h : IsTab T) : T.size = 766 := by rw [show T = tab from h]; exact tab_size
theorem make_is (w : World) : Calls Try.prog 9 #[] w fun e w' => ∃ T, IsTab T ∧ e = .returned (.agg T) ∧ Below w.heap.size w w' :=
  (make_any w).mono fun _ _ h => ⟨tab, rfl, h.1, h.2⟩
/-- What 't := gf.Make()' does behind the call: the tables into a new block. -/
theorem store_tab {T : Array Value} (h : IsTab T) (w : World) : Sem.run Try.prog (storeCells ⟨w.heap.size, 0, none⟩ T.toList) (w.alloc (.cells zc 25)) = .ok () (w.alloc (.cells T 25)) := by
  rw [show T = tab from h, run_storeCells_row _ _ 25 zc tab (heap_alloc_last _ _) (by rw [tab_size, zc_size]) tab_one, World.setRow_alloc_new]
theorem hasTab_new {T : Array Value} (h : IsTab T) (w : World) : HasTab (w.alloc (.cells T 25)) w.heap.size := by
  rw [show T = tab from h]; exact heap_alloc_last w _
/-- Behind 't := gf.Make()': a world of which we know what is wanted. -/
theorem tab_world {T : Array Value} (h : IsTab T) {w w1 : World} (hb : Below w.heap.size w w1) : ∃ b W, b = w1.heap.size ∧ W = w1.alloc (.cells T 25) ∧ HasTab W b ∧ w.heap.size ≤ b ∧ W.heap.size = b + 1 ∧ Below w.heap.size w W :=
  ⟨_, _, rfl, rfl, hasTab_new h w1, hb.size, by simp, hb.alloc hb.size _⟩

theorem HasTab.alloc {w : World} {b : Nat} (h : HasTab w b) (o : Obj) : HasTab (w.alloc o) b := by
  have hlt : b < w.heap.size := (Array.getElem?_eq_some_iff.1 h).1
  exact (Below.heap_alloc w o b hlt).trans h
theorem dot_c (b : Nat) (n : Nat) (W : World) (hT : HasTab W b) (hs : W.heap.size = b + 1) :
    Calls Try.prog 14 #[.pointer (some ⟨b, 0, none⟩), .slice (some ⟨b + 1, 0, none⟩) 2 2, .slice (some ⟨b + 1 + 1, 0, none⟩) 3 3]
      (((W.drewN n).alloc (.cells #[.int .u8 1, .int .u8 2] 5)).alloc (.cells #[.int .u8 3, .int .u8 4, .int .u8 5] 5)) fun e w' => e = .returned (.int .u8 11) ∧ Below W.heap.size W w' := by
  have h1 : (W.drewN n).heap.size = b + 1 := hs
  have h2 : ((W.drewN n).alloc (.cells #[.int .u8 1, .int .u8 2] 5)).heap.size = b + 1 + 1 := by rw [World.size_alloc, h1]
  refine (dot_any b 2 3 2 3 (some ⟨b + 1, 0, none⟩) (some ⟨b + 1 + 1, 0, none⟩) (fun i => [1, 2].getD i 0) (fun i => [3, 4, 5].getD i 0) ?_ ?_ (by decide) (by decide) _ (((hT.drewN n).alloc _).alloc _) (Or.inr ⟨_, _, rfl, ?_⟩) (Or.inr ⟨_, _, rfl, ?_⟩)).mono ?_
  · intro i; match i with
    | 0 => decide
    | 1 => decide
    | i + 2 => show 0 < 256; decide
  · intro i; match i with
    | 0 => decide
    | 1 => decide
    | 2 => decide
    | i + 3 => show 0 < 256; decide
  · intro i hi
    rw [World.cell?_alloc_lt _ _ _ (by rw [h2]; show b + 1 < b + 1 + 1; omega), World.cell?_alloc_at _ _ _ _ h1.symm]
    match i, hi with
    | 0, _ => rfl
    | 1, _ => rfl
  · intro i hi
    rw [World.cell?_alloc_at _ _ _ _ h2.symm]
    match i, hi with
    | 0, _ => rfl
    | 1, _ => rfl
    | 2, _ => rfl
  · rintro e w' ⟨rfl, m, rfl⟩
    refine ⟨ret_int (by decide +kernel), ?_⟩
    exact below_drewN (((below_drewN (Below.refl _ _) n).alloc (by simp) _).alloc (by simp) _) m

set_option maxHeartbeats 400000 in
theorem runs_any (w : World) :
    Calls Try.prog 3 #[] w fun e w' => e = .returned (.bool true) ∧ Below w.heap.size w w' := by
  have hz := zero25
  go_enter Try.func3, Try.ntmps3
  go_wp2_with fail
  refine (make_is w).mono ?_
  rintro e w1 ⟨T, hT, rfl, hb⟩
  have ht := hT.size
  have hst := store_tab hT w1
  go_wp2_with fail
  obtain ⟨b, W, eb, eW, hTab, hb1, hs, hB⟩ := tab_world hT hb
  rw [← eb, ← eW]
  clear hst ht hz eb eW hb hT
  refine (mul_c b 128 2 128 2 29 rfl rfl (by decide +kernel) (by decide) (by decide) W hTab).mono ?_
  rintro e w2 ⟨rfl, n1, rfl⟩
  go_wp2_with fail
  refine (mul_c b 3 7 3 7 9 rfl rfl (by decide +kernel) (by decide) (by decide) _ (hTab.drewN _)).mono ?_
  rintro e w2 ⟨rfl, n2, rfl⟩
  go_wp2_with fail
  refine (inv_c b 2 2 142 rfl (by decide +kernel) (by decide) _ (hTab.drewN _)).mono ?_
  rintro e w2 ⟨rfl, n3, rfl⟩
  go_wp2_with fail
  refine (pow_c b 2 255 2 255 1 rfl rfl (by decide +kernel) (by decide) _ (hTab.drewN _)).mono ?_
  rintro e w2 ⟨rfl, n4, rfl⟩
  go_wp2_with fail
  refine (div_c b 5 0 5 0 0 rfl rfl (by decide +kernel) (by decide) (by decide) _ (hTab.drewN _)).mono ?_
  rintro e w2 ⟨rfl, n5, rfl⟩
  go_wp2_with fail
  refine (pow_c b 0 0 0 0 1 rfl rfl (by decide +kernel) (by decide) _ (hTab.drewN _)).mono ?_
  rintro e w2 ⟨rfl, n6, rfl⟩
  go_wp2_with fail
  refine (pow_neg_c b 3 3 (-1) rfl (by decide) _).mono ?_
  rintro e w2 ⟨rfl, n7, rfl⟩
  go_wp2_with fail
  refine (dot_c b _ W hTab hs).mono ?_
  rintro e w2 ⟨rfl, hb2⟩
  go_wp2_with fail
  go_ret
  exact ⟨rfl, hB.trans (hb2.mono (by omega))⟩
end Go.Proofs.Ytadabbodjkdkdaa
