/-
  THE PROGRAM's Get.
-/
import Derived.Test.YtcdkpflhpeflcaaAsk
namespace Go.Proofs.Ytcdkpflhpeflcaa
open Go.RowKit

theorem ret_get {q : F × Nat} {x : F} {k : Nat} {K : Int} (h : q = (x, k)) (hK : K = (k : Int)) : Ending.returned (.tuple #[.agg x.cs.toArray, .int .i64 K]) = Ending.returned (.tuple #[q.1.v, .int .i64 ((q.2 : Nat) : Int)]) := by subst h hK; rfl
set_option maxHeartbeats 4000000 in
set_option maxRecDepth 100000 in
theorem get_any (a : Option Addr) (n c : Nat) (f : Nat → Nat) (fb : ∀ i, f i < 256) (hn : n ≤ 140737488355328) (w : World) (ra : RowF w a f n) :
    Calls Try.prog 8 #[.slice a n c] w fun e w' => e = .returned (.tuple #[(gt f n).1.v, .int .i64 (((gt f n).2 : Nat) : Int)]) ∧ Below w.heap.size w w' := by
  obtain ⟨q, hq⟩ : ∃ q, q = gt f n := ⟨_, rfl⟩
  rw [← hq]
  have HQ : Hid (q = gtE (err f n) (frm f n)) := hq
  clear hq
  have W0 : Hid (Below w.heap.size w (w.alloc (.cells #[.int .i64 0, .int .i64 0, .int .i64 0, .int .i64 0, .int .i64 0, .int .i64 0, .string ⟨#[]⟩, .int .i64 0, .string ⟨#[]⟩] 25))) := (Below.refl _ _).alloc (Nat.le_refl _) _
  have N0 : Hid (Nine (w.alloc (.cells #[.int .i64 0, .int .i64 0, .int .i64 0, .int .i64 0, .int .i64 0, .int .i64 0, .string ⟨#[]⟩, .int .i64 0, .string ⟨#[]⟩] 25)) w.heap.size) := Nine.new w
  have RA : Hid (RowF (w.alloc (.cells #[.int .i64 0, .int .i64 0, .int .i64 0, .int .i64 0, .int .i64 0, .int .i64 0, .string ⟨#[]⟩, .int .i64 0, .string ⟨#[]⟩] 25)) a f n) := ra.below W0.out
  have FB : Hid (∀ i, f i < 256) := fb
  clear ra fb
  go_enter Try.func8, Try.ntmps8
  go_wp2_with fail
  obtain ⟨w1, hw1⟩ : ∃ w1, w1 = w.alloc (.cells #[.int .i64 0, .int .i64 0, .int .i64 0, .int .i64 0, .int .i64 0, .int .i64 0, .string ⟨#[]⟩, .int .i64 0, .string ⟨#[]⟩] 25) := ⟨_, rfl⟩
  rw [← hw1] at W0 N0 RA ⊢
  obtain ⟨A, hA⟩ : ∃ A, A = w.heap.size := ⟨_, rfl⟩
  rw [← hA] at N0 ⊢
  have HA : Hid (w.heap.size ≤ A) := by rw [hA]; exact Nat.le_refl _
  clear hw1 hA
  refine (read_any a n c f FB.out hn _ RA.out).mono ?_
  rintro e w2 ⟨R, rfl, hR, i2, b2⟩
  have HR : Hid (w1.heap.size ≤ R) := hR
  have I2 : Hid (IsRd w2 R f n 0 0) := i2
  have B2 : Hid (Below w1.heap.size w1 w2) := b2
  clear hR i2 b2 RA
  go_wp2_with fail
  refine (ask_any R n f _ I2.out).mono ?_
  rintro e w3 ⟨rfl, i3, b3⟩
  have I3 : Hid (IsRd w3 R f n (qd f n).1 (qd f n).2) := i3
  have B3 : Hid (Below w1.heap.size w1 w3) := b3 w1 B2.out HR.out
  obtain ⟨x, hx⟩ : ∃ x, x = frm f n := ⟨_, rfl⟩
  rw [← hx] at HQ ⊢
  obtain ⟨g0, g1, g2, g3, g4, g5, g6, g7, g8⟩ := x
  simp only [F.v, F.cs]
  clear i3 b3 I2 B2 hx
  go_wp2_with fail
  obtain ⟨w4, hw4⟩ : ∃ w4, w4 = w3.alloc (.cells #[.int .i64 g0, .int .i64 g1, .int .i64 g2, .int .i64 g3, .int .i64 g4, .int .i64 g5, .string g6, .int .i64 g7, .string g8] 25) := ⟨_, rfl⟩
  have B34 : Below w3.heap.size w3 w4 := by rw [hw4]; exact (Below.refl _ _).alloc (Nat.le_refl _) _
  rw [← hw4]
  obtain ⟨G, hG⟩ : ∃ G, G = w3.heap.size := ⟨_, rfl⟩
  have HRG : Hid (G ≠ R) := by
    show _ ≠ _
    have := World.block_lt_of_cell? _ _ I3.out.pl
    rw [hG]
    have e : (⟨R, 1, none⟩ : Addr).block = R := rfl
    omega
  have D0 : Hid (w4.cell? ⟨G, 0, none⟩ = some (.int .i64 g0)) := by rw [hw4, hG, World.cell?_alloc_new]; rfl
  have D1 : Hid (w4.cell? ⟨G, 1, none⟩ = some (.int .i64 g1)) := by rw [hw4, hG, World.cell?_alloc_new]; rfl
  have D2 : Hid (w4.cell? ⟨G, 2, none⟩ = some (.int .i64 g2)) := by rw [hw4, hG, World.cell?_alloc_new]; rfl
  have D3 : Hid (w4.cell? ⟨G, 3, none⟩ = some (.int .i64 g3)) := by rw [hw4, hG, World.cell?_alloc_new]; rfl
  have D4 : Hid (w4.cell? ⟨G, 4, none⟩ = some (.int .i64 g4)) := by rw [hw4, hG, World.cell?_alloc_new]; rfl
  have D5 : Hid (w4.cell? ⟨G, 5, none⟩ = some (.int .i64 g5)) := by rw [hw4, hG, World.cell?_alloc_new]; rfl
  have D6 : Hid (w4.cell? ⟨G, 6, none⟩ = some (.string g6)) := by rw [hw4, hG, World.cell?_alloc_new]; rfl
  have D7 : Hid (w4.cell? ⟨G, 7, none⟩ = some (.int .i64 g7)) := by rw [hw4, hG, World.cell?_alloc_new]; rfl
  have D8 : Hid (w4.cell? ⟨G, 8, none⟩ = some (.string g8)) := by rw [hw4, hG, World.cell?_alloc_new]; rfl
  rw [← hG]
  have I4 : Hid (IsRd w4 R f n (qd f n).1 (qd f n).2) := I3.out.up B34
  have B4 : Hid (Below w1.heap.size w1 w4) := B3.out.trans (B34.mono B3.out.size)
  clear hw4 hG B34 I3 B3
  refine (rdend_any R n _ _ f _ I4.out).mono ?_
  rintro e w5 ⟨rfl, _, t5⟩
  have T5 : Hid (Turn R w4 w5) := t5
  have B5 : Hid (Below w1.heap.size w1 w5) := t5.below B4.out HR.out
  have n5 : Nine w5 A := N0.out.up B5.out
  obtain ⟨k, hk⟩ : ∃ k, k = endE n (qd f n).1 (qd f n).2 := ⟨_, rfl⟩
  have HK : Hid (err f n = k) := hk.symm
  rw [← hk]
  rw [HK.out] at HQ
  clear hk t5 I4 B4 HK N0
  by_cases hk0 : k = 0
  · subst hk0
    have d0 := (T5.out.cell HRG.out).trans D0.out
    have d1 := (T5.out.cell HRG.out).trans D1.out
    have d2 := (T5.out.cell HRG.out).trans D2.out
    have d3 := (T5.out.cell HRG.out).trans D3.out
    have d4 := (T5.out.cell HRG.out).trans D4.out
    have d5 := (T5.out.cell HRG.out).trans D5.out
    have d6 := (T5.out.cell HRG.out).trans D6.out
    have d7 := (T5.out.cell HRG.out).trans D7.out
    have d8 := (T5.out.cell HRG.out).trans D8.out
    have hlt : G < w5.heap.size := World.block_lt_of_cell? _ _ d0
    have N5 : Hid (Nine w5 A) := n5
    have rr := right_any ⟨g0, g1, g2, g3, g4, g5, g6, g7, g8⟩ w5
    simp only [F.v, F.cs] at rr
    have RR : Hid (Calls Try.prog 15 #[.agg #[.int .i64 g0, .int .i64 g1, .int .i64 g2, .int .i64 g3, .int .i64 g4, .int .i64 g5, .string g6, .int .i64 g7, .string g8]] w5 fun e w' => e = .returned (.bool (rt ⟨g0, g1, g2, g3, g4, g5, g6, g7, g8⟩)) ∧ Below w5.heap.size w5 w') := rr
    clear rr n5 hlt T5
    have E0 : Hid (w5.cell? ⟨G, 0, none⟩ = some (.int .i64 g0)) := d0
    have E1 : Hid (w5.cell? ⟨G, 1, none⟩ = some (.int .i64 g1)) := d1
    have E2 : Hid (w5.cell? ⟨G, 2, none⟩ = some (.int .i64 g2)) := d2
    have E3 : Hid (w5.cell? ⟨G, 3, none⟩ = some (.int .i64 g3)) := d3
    have E4 : Hid (w5.cell? ⟨G, 4, none⟩ = some (.int .i64 g4)) := d4
    have E5 : Hid (w5.cell? ⟨G, 5, none⟩ = some (.int .i64 g5)) := d5
    have E6 : Hid (w5.cell? ⟨G, 6, none⟩ = some (.string g6)) := d6
    have E7 : Hid (w5.cell? ⟨G, 7, none⟩ = some (.int .i64 g7)) := d7
    have E8 : Hid (w5.cell? ⟨G, 8, none⟩ = some (.string g8)) := d8
    clear D0 D1 D2 D3 D4 D5 D6 D7 D8
    go_wp2_with fail
    refine RR.out.mono ?_
    rintro e w6 ⟨rfl, b6⟩
    have n6 : Nine w6 A := N5.out.up b6
    have B6 : Hid (Below w.heap.size w w6) := W0.out.trans ((B5.out.trans (b6.mono B5.out.size)).mono W0.out.size)
    have u0 := cell_up b6 E0.out
    have u1 := cell_up b6 E1.out
    have u2 := cell_up b6 E2.out
    have u3 := cell_up b6 E3.out
    have u4 := cell_up b6 E4.out
    have u5 := cell_up b6 E5.out
    have u6 := cell_up b6 E6.out
    have u7 := cell_up b6 E7.out
    have u8 := cell_up b6 E8.out
    clear d0 E0 d1 E1 d2 E2 d3 E3 d4 E4 d5 E5 d6 E6 d7 E7 d8 E8 RR b6 B5 N5
    cases hr : rt ⟨g0, g1, g2, g3, g4, g5, g6, g7, g8⟩
    · have HQ2 : Hid (q = (Z, 4)) := HQ.out.trans (gtE_bad hr)
      have HB : Hid (Below w.heap.size w (nine w6 A (.int .i64 0) (.int .i64 0) (.int .i64 0) (.int .i64 0) (.int .i64 0) (.int .i64 0) (.string ⟨#[]⟩) (.int .i64 0) (.string ⟨#[]⟩))) := below_nine B6.out HA.out _ _ _ _ _ _ _ _ _
      have c0 := n6.cell 0
      have c1 := n6.cell 1
      have c2 := n6.cell 2
      have c3 := n6.cell 3
      have c4 := n6.cell 4
      have c5 := n6.cell 5
      have c6 := n6.cell 6
      have c7 := n6.cell 7
      have c8 := n6.cell 8
      have z := n6.frozen
      simp only [List.getElem?_toArray, List.getElem?_cons_zero, List.getElem?_cons_succ] at c0 c1 c2 c3 c4 c5 c6 c7 c8
      clear n6 HQ u0 u1 u2 u3 u4 u5 u6 u7 u8
      go_wp2_with fail
      refine bodyPost_ret (v := .tuple #[.agg #[.int .i64 0, .int .i64 0, .int .i64 0, .int .i64 0, .int .i64 0, .int .i64 0, .string ⟨#[]⟩, .int .i64 0, .string ⟨#[]⟩], .int .i64 4]) (by simp [results, Try.results8]; go_simp) rfl ?_
      exact ⟨ret_get HQ2.out rfl, HB.out⟩
    · have HQ2 : Hid (q = (⟨g0, g1, g2, g3, g4, g5, g6, g7, g8⟩, 0)) := HQ.out.trans (gtE_yes hr)
      have HB : Hid (Below w.heap.size w (nine w6 A (.int .i64 g0) (.int .i64 g1) (.int .i64 g2) (.int .i64 g3) (.int .i64 g4) (.int .i64 g5) (.string g6) (.int .i64 g7) (.string g8))) := below_nine B6.out HA.out _ _ _ _ _ _ _ _ _
      have c0 := n6.cell 0
      have c1 := n6.cell 1
      have c2 := n6.cell 2
      have c3 := n6.cell 3
      have c4 := n6.cell 4
      have c5 := n6.cell 5
      have c6 := n6.cell 6
      have c7 := n6.cell 7
      have c8 := n6.cell 8
      have z := n6.frozen
      simp only [List.getElem?_toArray, List.getElem?_cons_zero, List.getElem?_cons_succ] at c0 c1 c2 c3 c4 c5 c6 c7 c8
      clear n6 HQ
      go_wp2_with fail
      refine bodyPost_ret (v := .tuple #[.agg #[.int .i64 g0, .int .i64 g1, .int .i64 g2, .int .i64 g3, .int .i64 g4, .int .i64 g5, .string g6, .int .i64 g7, .string g8], .int .i64 0]) (by simp [results, Try.results8]; go_simp) rfl ?_
      exact ⟨ret_get HQ2.out rfl, HB.out⟩
  · have HQ2 : Hid (q = (Z, k)) := HQ.out.trans (gtE_no hk0)
    have HB : Hid (Below w.heap.size w (nine w5 A (.int .i64 0) (.int .i64 0) (.int .i64 0) (.int .i64 0) (.int .i64 0) (.int .i64 0) (.string ⟨#[]⟩) (.int .i64 0) (.string ⟨#[]⟩))) := below_nine (W0.out.trans (B5.out.mono W0.out.size)) HA.out _ _ _ _ _ _ _ _ _
    have j1 : ((k : Int) != 0) = true := by simp; omega
    have c0 := n5.cell 0
    have c1 := n5.cell 1
    have c2 := n5.cell 2
    have c3 := n5.cell 3
    have c4 := n5.cell 4
    have c5 := n5.cell 5
    have c6 := n5.cell 6
    have c7 := n5.cell 7
    have c8 := n5.cell 8
    have z := n5.frozen
    simp only [List.getElem?_toArray, List.getElem?_cons_zero, List.getElem?_cons_succ] at c0 c1 c2 c3 c4 c5 c6 c7 c8
    clear n5 HQ hk0 D0 D1 D2 D3 D4 D5 D6 D7 D8
    go_wp2_with fail
    refine bodyPost_ret (v := .tuple #[.agg #[.int .i64 0, .int .i64 0, .int .i64 0, .int .i64 0, .int .i64 0, .int .i64 0, .string ⟨#[]⟩, .int .i64 0, .string ⟨#[]⟩], .int .i64 (k : Int)]) (by simp [results, Try.results8]; go_simp) rfl ?_
    exact ⟨ret_get HQ2.out rfl, HB.out⟩
end Go.Proofs.Ytcdkpflhpeflcaa
