/-
  THE CHAPTER'S RUNS over the program: the call of MatrixRuns returns true and turns nothing that was there.
-/
import Derived.Test.YtdinhkcdllmmkaaInvert
import Derived.Test.YtdinhkcdllmmkaaTimes2
import Derived.Test.YtdinhkcdllmmkaaCauchy
namespace Go.Proofs.Ytdinhkcdllmmkaa
open Go.RowKit

/-- A matrix of two rows of two. -/
def m2 (a b c d : Nat) : Nat → Nat → Nat := fun i j => if i = 0 then (if j = 0 then a else b) else (if j = 0 then c else d)
theorem m2_B8 {a b c d : Nat} (ha : a < 256) (hb : b < 256) (hc : c < 256) (hd : d < 256) : Gf.B8 (m2 a b c d) := by
  intro i j; unfold m2; split <;> split <;> assumption
def m3 (a b c d e f : Nat) : Nat → Nat → Nat := fun i j => if i = 0 then (if j = 0 then a else b) else if i = 1 then (if j = 0 then c else d) else (if j = 0 then e else f)

theorem rowlit {W : World} {N : Nat} (hN : W.heap.size = N) (a b : Nat) : RowF (W.alloc (.cells #[.int .u8 (a : Int), .int .u8 (b : Int)] 5)) (some ⟨N, 0, none⟩) (fun j => if j = 0 then a else b) 2 :=
  Or.inr ⟨N, 0, rfl, fun j hj => by
    rw [World.cell?_alloc_at _ _ _ _ hN.symm]
    match j, hj with
    | 0, _ => rfl
    | 1, _ => rfl⟩
theorem lit2 {W : World} {N : Nat} (hN : W.heap.size = N) (a b c d : Nat) (A B C D : Int) (hA : A = (a : Int)) (hB : B = (b : Int)) (hC : C = (c : Int)) (hD : D = (d : Int)) :
    ∃ W1, W1 = (((W.alloc (.cells #[.int .u8 A, .int .u8 B] 5)).alloc (.cells #[.int .u8 C, .int .u8 D] 5)).alloc (.cells #[.slice (some ⟨N, 0, none⟩) 2 2, .slice (some ⟨N + 1, 0, none⟩) 2 2] 31)) ∧
      MatF W1 (some ⟨N + 1 + 1, 0, none⟩) (m2 a b c d) 2 2 ∧ Below W.heap.size W W1 := by
  subst hA hB hC hD
  have h1 : (W.alloc (.cells #[.int .u8 (a : Int), .int .u8 (b : Int)] 5)).heap.size = N + 1 := by rw [World.size_alloc, hN]
  have h2 : ((W.alloc (.cells #[.int .u8 (a : Int), .int .u8 (b : Int)] 5)).alloc (.cells #[.int .u8 (c : Int), .int .u8 (d : Int)] 5)).heap.size = N + 1 + 1 := by rw [World.size_alloc, h1]
  have b1 : ∀ (V : World) o, Below V.heap.size V (V.alloc o) := fun V o => (Below.refl _ _).alloc (Nat.le_refl _) o
  refine ⟨_, rfl, Or.inr ⟨N + 1 + 1, 0, rfl, fun i hi => ?_⟩, ((Below.refl _ _).alloc (Nat.le_refl _) _ |>.alloc (by rw [h1]; omega) _).alloc (by rw [h2]; omega) _⟩
  match i, hi with
  | 0, _ => exact ⟨some ⟨N, 0, none⟩, 2, by rw [World.cell?_alloc_at _ _ _ _ h2.symm]; rfl, Nat.le_refl _, ((rowlit hN a b).below (b1 _ _)).below (b1 _ _)⟩
  | 1, _ => exact ⟨some ⟨N + 1, 0, none⟩, 2, by rw [World.cell?_alloc_at _ _ _ _ h2.symm]; rfl, Nat.le_refl _, (rowlit h1 c d).below (b1 _ _)⟩
theorem lit3 {W : World} {N : Nat} (hN : W.heap.size = N) (a b c d e f : Nat) (A B C D E F : Int) (hA : A = (a : Int)) (hB : B = (b : Int)) (hC : C = (c : Int)) (hD : D = (d : Int)) (hE : E = (e : Int)) (hF : F = (f : Int)) :
    ∃ W1, W1 = ((((W.alloc (.cells #[.int .u8 A, .int .u8 B] 5)).alloc (.cells #[.int .u8 C, .int .u8 D] 5)).alloc (.cells #[.int .u8 E, .int .u8 F] 5)).alloc (.cells #[.slice (some ⟨N, 0, none⟩) 2 2, .slice (some ⟨N + 1, 0, none⟩) 2 2, .slice (some ⟨N + 1 + 1, 0, none⟩) 2 2] 31)) ∧
      MatF W1 (some ⟨N + 1 + 1 + 1, 0, none⟩) (m3 a b c d e f) 3 2 ∧ Below W.heap.size W W1 := by
  subst hA hB hC hD hE hF
  have h1 : (W.alloc (.cells #[.int .u8 (a : Int), .int .u8 (b : Int)] 5)).heap.size = N + 1 := by rw [World.size_alloc, hN]
  have h2 : ((W.alloc (.cells #[.int .u8 (a : Int), .int .u8 (b : Int)] 5)).alloc (.cells #[.int .u8 (c : Int), .int .u8 (d : Int)] 5)).heap.size = N + 1 + 1 := by rw [World.size_alloc, h1]
  have h3 : (((W.alloc (.cells #[.int .u8 (a : Int), .int .u8 (b : Int)] 5)).alloc (.cells #[.int .u8 (c : Int), .int .u8 (d : Int)] 5)).alloc (.cells #[.int .u8 (e : Int), .int .u8 (f : Int)] 5)).heap.size = N + 1 + 1 + 1 := by rw [World.size_alloc, h2]
  have b1 : ∀ (V : World) o, Below V.heap.size V (V.alloc o) := fun V o => (Below.refl _ _).alloc (Nat.le_refl _) o
  refine ⟨_, rfl, Or.inr ⟨N + 1 + 1 + 1, 0, rfl, fun i hi => ?_⟩, (((Below.refl _ _).alloc (Nat.le_refl _) _ |>.alloc (by rw [h1]; omega) _).alloc (by rw [h2]; omega) _).alloc (by rw [h3]; omega) _⟩
  match i, hi with
  | 0, _ => exact ⟨some ⟨N, 0, none⟩, 2, by rw [World.cell?_alloc_at _ _ _ _ h3.symm]; rfl, Nat.le_refl _, (((rowlit hN a b).below (b1 _ _)).below (b1 _ _)).below (b1 _ _)⟩
  | 1, _ => exact ⟨some ⟨N + 1, 0, none⟩, 2, by rw [World.cell?_alloc_at _ _ _ _ h3.symm]; rfl, Nat.le_refl _, ((rowlit h1 c d).below (b1 _ _)).below (b1 _ _)⟩
  | 2, _ => exact ⟨some ⟨N + 1 + 1, 0, none⟩, 2, by rw [World.cell?_alloc_at _ _ _ _ h3.symm]; rfl, Nat.le_refl _, (rowlit h2 e f).below (b1 _ _)⟩

theorem run_inv1 : Gf.EqN 2 (Gf.mm 2 (m2 0 1 1 1) (m2 1 1 1 0)) Gf.idm := by
  show ∀ i, i < 2 → ∀ j, j < 2 → _; decide +kernel
theorem run_inv2 : Gf.EqN 2 (Gf.mm 2 (m2 1 1 1 0) (m2 0 1 1 1)) Gf.idm := by
  show ∀ i, i < 2 → ∀ j, j < 2 → _; decide +kernel
theorem run_ker : ¬ Gf.Inj 2 (m2 1 2 1 2) := by
  intro h
  have := h (fun i => if i = 0 then 2 else 1) (fun i => by show (if i = 0 then 2 else 1) < 256; split <;> decide) (by show ∀ i, i < 2 → _; decide +kernel) 0 (by decide)
  exact absurd this (by decide)
theorem run_rank : Gf.RankIs 2 2 1 (m2 1 2 1 2) := by
  refine ⟨fun _ _ => 1, m2 1 2 0 0, m2 1 0 0 0, fun _ _ => by show 1 < 256; decide, m2_B8 (by decide) (by decide) (by decide) (by decide), m2_B8 (by decide) (by decide) (by decide) (by decide), ?_, ?_, ?_⟩
  · show ∀ i, i < 2 → ∀ j, j < 2 → _; decide +kernel
  · refine Gf.indep_of_pivots (fun _ => 0) (fun i hi => ⟨by decide, ?_⟩) (fun i l h1 h2 => by omega)
    have : i = 0 := by omega
    subst this; decide
  · show ∀ i, i < 1 → ∀ j, j < 2 → _; decide +kernel
theorem run_cau : ∀ i, i < 3 → ∀ j, j < 2 → Gf.cau 2 i j = m3 1 0 0 1 142 244 i j := by decide +kernel

set_option maxHeartbeats 4000000 in
theorem mruns_any (w : World) : Calls Try.prog 3 #[] w fun e w' => e = .returned (.bool true) ∧ Below w.heap.size w w' := by
  have hz := zero25
  go_enter Try.func3, Try.ntmps3
  go_wp2_with fail
  refine (make_is w).mono ?_
  rintro e w1 ⟨T, hT, rfl, hb⟩
  have ht := hT.size
  have hst := store_tab hT w1
  go_wp2_with fail
  obtain ⟨b, W, eb, eW, hTab, hb1, hs, hB⟩ := tab_world hT hb
  rw [← eb, ← eW]
  clear hst ht hz eb eW hb hT
  obtain ⟨W1, e1, M1, L1⟩ := lit2 hs 1 1 1 0 1 1 1 0 rfl rfl rfl rfl
  rw [← e1]
  have T1 := hTab.up L1
  have B1 : Hid (Below w.heap.size w W1) := hB.trans (L1.mono hB.size)
  clear e1 L1 hTab hB hs hb1
  refine (invert_any _ b 2 2 _ (m2_B8 (by decide) (by decide) (by decide) (by decide)) (by decide) (by decide) W1 M1 T1).mono ?_
  rintro e w2 ⟨L2, ⟨g2, P2, V2, rfl, G2, b2, q1, q2, _⟩ | ⟨_, no⟩⟩
  · have hV : Hid (Gf.EqN 2 V2 (m2 0 1 1 1)) := Gf.inv_unique b2 (m2_B8 (by decide) (by decide) (by decide) (by decide)) (m2_B8 (by decide) (by decide) (by decide) (by decide)) q1 run_inv2
    have F2 : Hid (MatF w2 (some ⟨g2, 0, none⟩) V2 2 2) := G2.matF
    have T2 := T1.up L2
    have B2 : Hid (Below w.heap.size w w2) := B1.out.trans (L2.mono B1.out.size)
    clear L2 G2 b2 q1 q2 T1 B1 M1
    obtain ⟨n2, hs⟩ : ∃ n, w2.heap.size = n := ⟨_, rfl⟩
    go_wp2_with fail
    obtain ⟨W3, e1, M3, L3⟩ := lit2 hs 1 2 1 2 1 2 1 2 rfl rfl rfl rfl
    rw [← e1]
    have T3 := T2.up L3
    have B3 : Hid (Below w.heap.size w W3) := B2.out.trans (L3.mono B2.out.size)
    have F3 : Hid (MatF W3 (some ⟨g2, 0, none⟩) V2 2 2) := F2.out.below L3
    clear e1 L3 T2 B2 F2 hs
    refine (invert_any _ b 2 2 _ (m2_B8 (by decide) (by decide) (by decide) (by decide)) (by decide) (by decide) W3 M3 T3).mono ?_
    rintro e w4 ⟨L4, ⟨_, _, _, _, _, _, _, _, yes⟩ | ⟨rfl, _⟩⟩
    · exact absurd yes run_ker
    · have T4 := T3.up L4
      have B4 : Hid (Below w.heap.size w w4) := B3.out.trans (L4.mono B3.out.size)
      have F4 : Hid (MatF w4 (some ⟨g2, 0, none⟩) V2 2 2) := F3.out.below L4
      clear L4 T3 B3 F3 M3
      obtain ⟨n4, hs⟩ : ∃ n, w4.heap.size = n := ⟨_, rfl⟩
      go_wp2_with fail
      obtain ⟨W5, e1, M5, L5⟩ := lit2 hs 0 1 1 1 0 1 1 1 rfl rfl rfl rfl
      rw [← e1]
      have T5 := T4.up L5
      have B5 : Hid (Below w.heap.size w W5) := B4.out.trans (L5.mono B4.out.size)
      have F5 : Hid (MatF W5 (some ⟨g2, 0, none⟩) V2 2 2) := F4.out.below L5
      clear e1 L5 T4 B4 F4 hs
      refine (same2_any _ _ 2 2 2 2 V2 (m2 0 1 1 1) (by decide) (by decide) hV.out W5 F5.out M5).mono ?_
      rintro e w6 ⟨rfl, d6, rfl⟩
      have T6 := T5.drewN d6
      have B6 : Hid (Below w.heap.size w (W5.drewN d6)) := below_drewN B5.out d6
      clear T5 B5 F5 M5 hV
      obtain ⟨W6, e6⟩ : ∃ W6, W6 = W5.drewN d6 := ⟨_, rfl⟩
      rw [← e6] at T6 B6 ⊢
      clear e6
      obtain ⟨n6, hs⟩ : ∃ n, W6.heap.size = n := ⟨_, rfl⟩
      go_wp2_with fail
      obtain ⟨W7, e1, M7, L7⟩ := lit2 hs 1 2 1 2 1 2 1 2 rfl rfl rfl rfl
      rw [← e1]
      have T7 := T6.up L7
      have B7 : Hid (Below w.heap.size w W7) := B6.out.trans (L7.mono B6.out.size)
      clear e1 L7 T6 B6 hs
      refine (rank_any _ b 2 2 2 _ (m2_B8 (by decide) (by decide) (by decide) (by decide)) (by decide) (by decide) (by decide) (by decide) W7 M7 T7).mono ?_
      rintro e w8 ⟨r, rfl, hr, _, L8⟩
      have hr1 : r = 1 := Gf.rank_unique (m2_B8 (by decide) (by decide) (by decide) (by decide)) hr run_rank
      subst hr1
      have T8 := T7.up L8
      have B8 : Hid (Below w.heap.size w w8) := B7.out.trans (L8.mono B7.out.size)
      clear L8 T7 B7 M7 hr
      go_wp2_with fail
      refine (cau_any b 2 1 2 1 rfl rfl (by decide) (by decide) (by decide) w8 T8).mono ?_
      rintro e w9 ⟨g9, c9, rfl, M9, _, L9⟩
      have T9 := T8.up L9
      have B9 : Hid (Below w.heap.size w w9) := B8.out.trans (L9.mono B8.out.size)
      have F9 : Hid (MatF w9 (some ⟨g9, 0, none⟩) (Gf.cau 2) 3 2) := M9
      clear L9 T8 B8 M9
      obtain ⟨n9, hs⟩ : ∃ n, w9.heap.size = n := ⟨_, rfl⟩
      go_wp2_with fail
      obtain ⟨W10, e1, M10, L10⟩ := lit3 hs 1 0 0 1 142 244 1 0 0 1 142 244 rfl rfl rfl rfl rfl rfl
      rw [← e1]
      have B10 : Hid (Below w.heap.size w W10) := B9.out.trans (L10.mono B9.out.size)
      have F10 : Hid (MatF W10 (some ⟨g9, 0, none⟩) (Gf.cau 2) 3 2) := F9.out.below L10
      clear e1 L10 T9 B9 F9 hs
      refine (same2_any _ _ 3 2 c9 3 (Gf.cau 2) (m3 1 0 0 1 142 244) (by decide) (by decide) run_cau W10 F10.out M10).mono ?_
      rintro e w11 ⟨rfl, d11, rfl⟩
      have B11 : Hid (Below w.heap.size w (W10.drewN d11)) := below_drewN B10.out d11
      clear B10 F10 M10
      go_wp2_with fail
      refine (ident_none 13 (by decide) _).mono ?_
      rintro e w12 ⟨rfl, rfl⟩
      go_wp2_with fail
      go_ret
      exact ⟨rfl, B11.out⟩
  · exact absurd (Gf.inj_of_left (m2_B8 (by decide) (by decide) (by decide) (by decide)) (m2_B8 (by decide) (by decide) (by decide) (by decide)) run_inv1) no
end Go.Proofs.Ytdinhkcdllmmkaa
