/-
  THE PROGRAM's Put: a frame's bytes.
-/
import Derived.Test.YtcdkpflhpeflcaaWir
import Derived.Deep.CutRange
namespace Go.Proofs.Ytcdkpflhpeflcaa
open Go.RowKit

theorem encs_step (f : F) (j : Nat) (n : Int) (h : f.nums[j]? = some n) : encs (f.nums.take j) ++ enc (fold n) = encs (f.nums.take (j + 1)) := by
  rw [List.take_add_one, h]; simp [encs]
/-- A list of the call's own, as a row. -/
theorem own_row {w : World} {B : Nat} {v : Value} {l : List Nat} (h : OwnC w B v l) : ∃ a c, v = .slice a l.length c ∧ RowF w a (lf l) l.length := by
  obtain ⟨a, c, h1, _, h2⟩ := h.row
  exact ⟨a, c, h1, h2⟩
theorem index39_0 (a0 a1 a2 a3 a4 a5 : Int) (w : World) : (Instr.index 39 (.agg #[.int .i64 a0, .int .i64 a1, .int .i64 a2, .int .i64 a3, .int .i64 a4, .int .i64 a5]) (.int .i64 0)).run Try.prog w = .ok (.int .i64 a0) w := by kernel_rfl
theorem index39_1 (a0 a1 a2 a3 a4 a5 : Int) (w : World) : (Instr.index 39 (.agg #[.int .i64 a0, .int .i64 a1, .int .i64 a2, .int .i64 a3, .int .i64 a4, .int .i64 a5]) (.int .i64 1)).run Try.prog w = .ok (.int .i64 a1) w := by kernel_rfl
theorem index39_2 (a0 a1 a2 a3 a4 a5 : Int) (w : World) : (Instr.index 39 (.agg #[.int .i64 a0, .int .i64 a1, .int .i64 a2, .int .i64 a3, .int .i64 a4, .int .i64 a5]) (.int .i64 2)).run Try.prog w = .ok (.int .i64 a2) w := by kernel_rfl
theorem index39_3 (a0 a1 a2 a3 a4 a5 : Int) (w : World) : (Instr.index 39 (.agg #[.int .i64 a0, .int .i64 a1, .int .i64 a2, .int .i64 a3, .int .i64 a4, .int .i64 a5]) (.int .i64 3)).run Try.prog w = .ok (.int .i64 a3) w := by kernel_rfl
theorem index39_4 (a0 a1 a2 a3 a4 a5 : Int) (w : World) : (Instr.index 39 (.agg #[.int .i64 a0, .int .i64 a1, .int .i64 a2, .int .i64 a3, .int .i64 a4, .int .i64 a5]) (.int .i64 4)).run Try.prog w = .ok (.int .i64 a4) w := by kernel_rfl
theorem index39_5 (a0 a1 a2 a3 a4 a5 : Int) (w : World) : (Instr.index 39 (.agg #[.int .i64 a0, .int .i64 a1, .int .i64 a2, .int .i64 a3, .int .i64 a4, .int .i64 a5]) (.int .i64 5)).run Try.prog w = .ok (.int .i64 a5) w := by kernel_rfl
/-- One number more. -/
theorem put_step (f : F) (j : Nat) (n : Int) (hn : f.nums[j]? = some n) (h1 : 0 ≤ n) (h2 : n ≤ 1099511627776) (a : Option Addr) (m c : Nat) (hm : m ≤ 60) (w2 wr : World) (HM : m = (encs (f.nums.take j)).length) (HL : ∀ j, (encs (f.nums.take j)).length ≤ 60) (HW : RowF wr a (lf (encs (f.nums.take j))) m) (HB : Below w2.heap.size w2 wr) :
    Calls Try.prog 17 #[.slice a m c, .int .i64 n] wr fun e w' => ∃ p k m4, e = .returned (.slice p m4 k) ∧ m4 ≤ 60 ∧ Hid (m4 = (encs (f.nums.take (j + 1))).length) ∧ Hid (RowF w' p (lf (encs (f.nums.take (j + 1)))) m4) ∧ Hid (Below w2.heap.size w2 w') := by
  refine (num_any a m c (lf (encs (f.nums.take j))) n (by omega) (by omega) (by omega) _ HW).mono ?_
  rintro e w4 ⟨v4, rfl, O4, B4⟩
  rw [HM, tab_lf, encs_step f _ _ hn] at O4
  obtain ⟨p4, k4, rfl, r4⟩ := own_row O4
  exact ⟨p4, k4, _, rfl, HL _, rfl, r4, HB.trans (B4.mono HB.size)⟩
/-- One number more. -/
theorem rput_step (f : F) (j : Nat) (n : Int) (hn : f.nums[j]? = some n) (h1 : 0 ≤ n) (h2 : n ≤ 1099511627776) (a : Option Addr) (m c : Nat) (hm : m ≤ 60) (w2 wr : World) (HM : m = (encs (f.nums.take j)).length) (HL : ∀ j, (encs (f.nums.take j)).length ≤ 60) (HW : RowF wr a (lf (encs (f.nums.take j))) m) (HB : Below w2.heap.size w2 wr) :
    Calls Try.prog 22 #[.slice a m c, .int .i64 n] wr fun e w' => ∃ p k m4, e = .returned (.slice p m4 k) ∧ m4 ≤ 60 ∧ Hid (m4 = (encs (f.nums.take (j + 1))).length) ∧ Hid (RowF w' p (lf (encs (f.nums.take (j + 1)))) m4) ∧ Hid (Below w2.heap.size w2 w') := by
  refine (rnum_any a m c (lf (encs (f.nums.take j))) n (by omega) (by omega) (by omega) _ HW).mono ?_
  rintro e w4 ⟨v4, rfl, O4, B4⟩
  rw [HM, tab_lf, encs_step f _ _ hn] at O4
  obtain ⟨p4, k4, rfl, r4⟩ := own_row O4
  exact ⟨p4, k4, _, rfl, HL _, rfl, r4, HB.trans (B4.mono HB.size)⟩
set_option maxHeartbeats 4000000 in
set_option maxRecDepth 100000 in
theorem put_any (f : F) (w : World) : Calls Try.prog 6 #[f.v] w fun e w' => ∃ v, e = .returned v ∧ OwnC w' w.heap.size v (byF f) ∧ Below w.heap.size w w' ∧ (rt f = false → v = .slice none 0 0) := by
  obtain ⟨a0, a1, a2, a3, a4, a5, a6, a7, a8⟩ := f
  obtain ⟨f, hf⟩ : ∃ f : F, f = ⟨a0, a1, a2, a3, a4, a5, a6, a7, a8⟩ := ⟨_, rfl⟩
  have HF : Hid (f = ⟨a0, a1, a2, a3, a4, a5, a6, a7, a8⟩) := hf
  have HV : Hid (f.v = .agg #[.int .i64 a0, .int .i64 a1, .int .i64 a2, .int .i64 a3, .int .i64 a4, .int .i64 a5, .string a6, .int .i64 a7, .string a8]) := by show _ = _; rw [hf]; rfl
  have HN : Hid (f.nums = [a0, a1, a2, a3, a4, a5]) := by show _ = _; rw [hf]; rfl
  rw [← hf, HV.out]
  clear hf
  have HB : Hid (Below w.heap.size w (w.alloc (.cells #[.int .i64 a0, .int .i64 a1, .int .i64 a2, .int .i64 a3, .int .i64 a4, .int .i64 a5, .string a6, .int .i64 a7, .string a8] 25))) := (Below.refl _ _).alloc (Nat.le_refl _) _
  go_enter Try.func6, Try.ntmps6
  go_wp2_with fail
  have rr := right_any f (w.alloc (.cells #[.int .i64 a0, .int .i64 a1, .int .i64 a2, .int .i64 a3, .int .i64 a4, .int .i64 a5, .string a6, .int .i64 a7, .string a8] 25))
  rw [HV.out] at rr
  refine rr.mono ?_
  clear rr
  rintro e w2 ⟨rfl, B2⟩
  have HB2 : Hid (Below w.heap.size w w2) := HB.out.trans (B2.mono HB.out.size)
  have c0 : w2.cell? ⟨w.heap.size, 0, none⟩ = some (.int .i64 a0) := cell_up B2 (by rw [World.cell?_alloc_new]; rfl)
  have c1 : w2.cell? ⟨w.heap.size, 1, none⟩ = some (.int .i64 a1) := cell_up B2 (by rw [World.cell?_alloc_new]; rfl)
  have c2 : w2.cell? ⟨w.heap.size, 2, none⟩ = some (.int .i64 a2) := cell_up B2 (by rw [World.cell?_alloc_new]; rfl)
  have c3 : w2.cell? ⟨w.heap.size, 3, none⟩ = some (.int .i64 a3) := cell_up B2 (by rw [World.cell?_alloc_new]; rfl)
  have c4 : w2.cell? ⟨w.heap.size, 4, none⟩ = some (.int .i64 a4) := cell_up B2 (by rw [World.cell?_alloc_new]; rfl)
  have c5 : w2.cell? ⟨w.heap.size, 5, none⟩ = some (.int .i64 a5) := cell_up B2 (by rw [World.cell?_alloc_new]; rfl)
  have HC6 : Hid (w2.cell? ⟨w.heap.size, 6, none⟩ = some (.string a6)) := cell_up B2 (by rw [World.cell?_alloc_new]; rfl)
  have HC7 : Hid (w2.cell? ⟨w.heap.size, 7, none⟩ = some (.int .i64 a7)) := cell_up B2 (by rw [World.cell?_alloc_new]; rfl)
  have HC8 : Hid (w2.cell? ⟨w.heap.size, 8, none⟩ = some (.string a8)) := cell_up B2 (by rw [World.cell?_alloc_new]; rfl)
  obtain ⟨A, hA⟩ : ∃ A, A = w.heap.size := ⟨_, rfl⟩
  rw [← hA] at c0 c1 c2 c3 c4 c5 HC6 HC7 HC8 ⊢
  have HA : Hid (A = w.heap.size) := hA
  clear B2 HB hA
  cases hr : rt f
  · have HY : Hid (byF f = []) := by show _ = _; unfold byF; rw [hr]; rfl
    go_wp2_with fail
    go_ret
    exact ⟨_, rfl, .inl ⟨rfl, HY.out⟩, HB2.out, fun _ => rfl⟩
  · have HR : Hid (rt f = true) := hr
    have HY : Hid (byF f = encF f) := by show _ = _; unfold byF; rw [hr]; rfl
    have hb := rt_bounds hr
    rw [HF.out] at hb
    simp only at hb
    obtain ⟨b0, b1, b2, b3, b4, b7, b5, b6, b8⟩ := hb
    have HNO : Hid (rt f = false → False) := fun h => by rw [HR.out] at h; cases h
    have HL : Hid (∀ j, (encs (f.nums.take j)).length ≤ 60) := encs_take_len f hr
    clear hr
    go_wp2_with fail
    go_loopw [3, 22] (fun x y wr => ∃ (j : Nat) (a : Option Addr) (m c : Nat), y = .int .i64 (j : Int) ∧ j ≤ 6 ∧ x = .slice a m c ∧ m ≤ 60 ∧ Hid (m = (encs (f.nums.take j)).length) ∧ Hid (RowF wr a (lf (encs (f.nums.take j))) m) ∧ Hid (Below w2.heap.size w2 wr)) (fun _ y _ => 6 - (intOf y).toNat)
    case atStart => exact ⟨0, none, 0, 0, rfl, by omega, rfl, by omega, rfl, .inl rfl, Below.refl _ _⟩
    case round =>
      clear c0 c1 c2 c3 c4 c5
      obtain ⟨j, a, m, c, rfl, hj, rfl, hm, HM, HW, HB3⟩ := hrel
      by_cases h6 : j = 6
      · subst h6
        have c6 := cell_up HB3.out HC6.out
        have HC7' : Hid (wr.cell? ⟨A, 7, none⟩ = some (.int .i64 a7)) := cell_up HB3.out HC7.out
        have HC8' : Hid (wr.cell? ⟨A, 8, none⟩ = some (.string a8)) := cell_up HB3.out HC8.out
        have b6' : a6.size ≤ 250 := by omega
        have b8' : a8.size ≤ 1049600 := by omega
        clear HC6 HC7 HC8
        go_wp2_with fail
        refine (text_any a m c (lf (encs (f.nums.take 6))) a6 (by omega) _ HW.out).mono ?_
        rintro e w4 ⟨v4, rfl, O4, B4⟩
        obtain ⟨l4, e4⟩ : ∃ l4, l4 = encs f.nums ++ tx a6 := ⟨_, rfl⟩
        have E4 : tab (lf (encs (f.nums.take 6))) m ++ (enc (a6.size * 2) ++ sb a6) = l4 := by
          rw [e4, HM.out, tab_lf]; rw [show f.nums.take 6 = f.nums by rw [HN.out]; rfl]; rfl
        rw [E4] at O4
        obtain ⟨p4, k4, rfl, r4⟩ := own_row O4
        have hl4 : l4.length ≤ 330 := by
          rw [e4, List.length_append]
          have := tx_len a6 (by omega)
          have q := HL.out 6
          rw [show f.nums.take 6 = f.nums by rw [HN.out]; rfl] at q
          omega
        have R4 : Hid (RowF w4 p4 (lf l4) l4.length) := r4
        have HE4 : Hid (l4 = encs f.nums ++ tx a6) := e4
        have HB4 : Hid (Below w2.heap.size w2 w4) := HB3.out.trans (B4.mono HB3.out.size)
        have c7 := cell_up B4 HC7'.out
        have HC8 : Hid (w4.cell? ⟨A, 8, none⟩ = some (.string a8)) := cell_up B4 HC8'.out
        clear O4 B4 r4 e4 E4 HB3 HC7' HC8' c6 HW HM
        go_wp2_with fail
        refine (num_any p4 l4.length k4 (lf l4) a7 (by omega) (by omega) (by omega) _ R4.out).mono ?_
        rintro e w5 ⟨v5, rfl, O5, B5⟩
        obtain ⟨l5, e5⟩ : ∃ l5, l5 = l4 ++ enc (fold a7) := ⟨_, rfl⟩
        rw [tab_lf, ← e5] at O5
        obtain ⟨p5, k5, rfl, r5⟩ := own_row O5
        have hl5 : l5.length ≤ 340 := by
          rw [e5, List.length_append]
          have := enc_len10 (fold_lt (n := a7) (by omega) (by omega))
          omega
        have R5 : Hid (RowF w5 p5 (lf l5) l5.length) := r5
        have HE5 : Hid (l5 = l4 ++ enc (fold a7)) := e5
        have HB5 : Hid (Below w2.heap.size w2 w5) := HB4.out.trans (B5.mono HB4.out.size)
        have c8 := cell_up B5 HC8.out
        clear O5 B5 r5 e5 HB4 HC8 c7 R4
        go_wp2_with fail
        refine (text_any p5 l5.length k5 (lf l5) a8 (by omega) _ R5.out).mono ?_
        rintro e w6 ⟨v6, rfl, O6, B6⟩
        have E6 : tab (lf l5) l5.length ++ (enc (a8.size * 2) ++ sb a8) = byF f := by
          rw [tab_lf, HY.out, HE5.out, HE4.out, encF, HF.out]
          simp [tx, List.append_assoc]
        rw [E6] at O6
        have hb6 : Below w.heap.size w w6 := HB2.out.trans ((HB5.out.trans (B6.mono HB5.out.size)).mono HB2.out.size)
        have H6 : Hid (OwnC w6 w.heap.size v6 (byF f)) := O6.mono (Nat.le_trans HB2.out.size HB5.out.size)
        have HB6 : Hid (Below w.heap.size w w6) := hb6
        clear O6 B6 hb6 R5
        go_wp2_with fail
        go_ret
        exact ⟨_, rfl, H6.out, HB6.out, fun h => (HNO.out h).elim⟩
      · have hjs : j = 0 ∨ j = 1 ∨ j = 2 ∨ j = 3 ∨ j = 4 ∨ j = 5 := by omega
        clear HC6 HC7 HC8 h6 hj
        rcases hjs with rfl | rfl | rfl | rfl | rfl | rfl
        · have ix := index39_0 a0 a1 a2 a3 a4 a5
          go_wp2_with fail
          refine (put_step f 0 a0 (by rw [HN.out]; rfl) (by omega) (by omega) a m c hm w2 _ HM.out HL.out HW.out HB3.out).mono ?_
          rintro e w4 ⟨p4, k4, m4, rfl, hm4, HM4, R4, HB4⟩
          clear HM HW HB3
          go_wp2_with fail
          exact ⟨⟨1, p4, m4, k4, by go_num, by omega, rfl, hm4, HM4, R4, HB4⟩, by simp [intOf]⟩
        · have ix := index39_1 a0 a1 a2 a3 a4 a5
          go_wp2_with fail
          refine (put_step f 1 a1 (by rw [HN.out]; rfl) (by omega) (by omega) a m c hm w2 _ HM.out HL.out HW.out HB3.out).mono ?_
          rintro e w4 ⟨p4, k4, m4, rfl, hm4, HM4, R4, HB4⟩
          clear HM HW HB3
          go_wp2_with fail
          exact ⟨⟨2, p4, m4, k4, by go_num, by omega, rfl, hm4, HM4, R4, HB4⟩, by simp [intOf]⟩
        · have ix := index39_2 a0 a1 a2 a3 a4 a5
          go_wp2_with fail
          refine (put_step f 2 a2 (by rw [HN.out]; rfl) (by omega) (by omega) a m c hm w2 _ HM.out HL.out HW.out HB3.out).mono ?_
          rintro e w4 ⟨p4, k4, m4, rfl, hm4, HM4, R4, HB4⟩
          clear HM HW HB3
          go_wp2_with fail
          exact ⟨⟨3, p4, m4, k4, by go_num, by omega, rfl, hm4, HM4, R4, HB4⟩, by simp [intOf]⟩
        · have ix := index39_3 a0 a1 a2 a3 a4 a5
          go_wp2_with fail
          refine (put_step f 3 a3 (by rw [HN.out]; rfl) (by omega) (by omega) a m c hm w2 _ HM.out HL.out HW.out HB3.out).mono ?_
          rintro e w4 ⟨p4, k4, m4, rfl, hm4, HM4, R4, HB4⟩
          clear HM HW HB3
          go_wp2_with fail
          exact ⟨⟨4, p4, m4, k4, by go_num, by omega, rfl, hm4, HM4, R4, HB4⟩, by simp [intOf]⟩
        · have ix := index39_4 a0 a1 a2 a3 a4 a5
          go_wp2_with fail
          refine (put_step f 4 a4 (by rw [HN.out]; rfl) (by omega) (by omega) a m c hm w2 _ HM.out HL.out HW.out HB3.out).mono ?_
          rintro e w4 ⟨p4, k4, m4, rfl, hm4, HM4, R4, HB4⟩
          clear HM HW HB3
          go_wp2_with fail
          exact ⟨⟨5, p4, m4, k4, by go_num, by omega, rfl, hm4, HM4, R4, HB4⟩, by simp [intOf]⟩
        · have ix := index39_5 a0 a1 a2 a3 a4 a5
          go_wp2_with fail
          refine (put_step f 5 a5 (by rw [HN.out]; rfl) (by omega) (by omega) a m c hm w2 _ HM.out HL.out HW.out HB3.out).mono ?_
          rintro e w4 ⟨p4, k4, m4, rfl, hm4, HM4, R4, HB4⟩
          clear HM HW HB3
          go_wp2_with fail
          exact ⟨⟨6, p4, m4, k4, by go_num, by omega, rfl, hm4, HM4, R4, HB4⟩, by simp [intOf]⟩
end Go.Proofs.Ytcdkpflhpeflcaa
