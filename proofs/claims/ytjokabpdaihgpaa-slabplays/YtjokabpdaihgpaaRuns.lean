/-
  SAME, WITHIN of the book; is, data of the law; S(Nat → Nat × Nat)RUNS walked.
-/
import Derived.Test.YtjokabpdaihgpaaAlloc
import Derived.Test.YtjokabpdaihgpaaFree
import Derived.Test.YtjokabpdaihgpaaNew
namespace Go.Proofs.Ytjokabpdaihgpaa
open Go.RowKit

theorem tmod_bd (n : Int) (h : Nat) : -((h : Int) + 1) < n.tmod ((h : Int) + 1) ∧ n.tmod ((h : Int) + 1) < (h : Int) + 1 := by
  have h1 := Int.tmod_lt_of_pos n (show (0 : Int) < (h : Int) + 1 by omega)
  have h2 := Int.lt_tmod_of_pos n (show (0 : Int) < (h : Int) + 1 by omega)
  exact ⟨h2, h1⟩
set_option maxHeartbeats 400000 in
/-- Within: a number of the bounds. -/
theorem within_any (n L H : Int) (hL : -1000 ≤ L) (hLH : L ≤ H) (hH : H ≤ 100000000) (w : World) :
    Calls Try.prog 16 #[.int .i64 n, .int .i64 L, .int .i64 H] w fun e w' => (∃ r : Int, e = .returned (.int .i64 r) ∧ L ≤ r ∧ r ≤ H) ∧ w = w' := by
  obtain ⟨d, hd⟩ : ∃ d : Nat, H - L = (d : Int) := ⟨(H - L).toNat, by omega⟩
  have hHL : H = L + (d : Int) := by omega
  subst hHL
  clear hd
  obtain ⟨q1, q2⟩ := tmod_bd n d
  obtain ⟨q, hq⟩ : ∃ q, n.tmod ((d : Int) + 1) = q := ⟨_, rfl⟩
  rw [hq] at q1 q2
  have e1 : L + (d : Int) - L + 1 = (d : Int) + 1 := by omega
  have hne : ((d : Int) + 1 == 0) = false := by simp; omega
  have hne2 : ¬ ((d : Int) + 1 = -1) := by omega
  have hne3 : ¬ ((d : Int) + 1 = 0) := by omega
  by_cases q0 : q < 0
  · go_enter Try.func16, Try.ntmps16
    go_wp2
    go_ret
    exact ⟨⟨L + (q + d + 1), ret_int (by omega), by omega, by omega⟩, rfl⟩
  · go_enter Try.func16, Try.ntmps16
    go_wp2
    go_ret
    exact ⟨⟨L + q, ret_int (by omega), by omega, by omega⟩, rfl⟩
/-- Zeros as a text. -/
def zs (n : Nat) : ByteArray := ⟨(List.replicate n (0 : UInt8)).toArray⟩
theorem zs_size (n : Nat) : (zs n).size = n := by simp [zs, ByteArray.size]
theorem under30 : Try.prog.underlying 30 = some (.slice 5) := by kernel_rfl
theorem under9 : Try.prog.underlying 9 = some .string := by kernel_rfl
theorem under5 : Try.prog.underlying 5 = some (.int .u8) := by kernel_rfl
theorem info5 : (Try.prog.info? 5).map (fun i => (i.zero, i.size, i.bytes)) = some (some (.int .u8 0), 1, 1) := by kernel_rfl
/-- string(make([]byte, n)). -/
theorem make_zs (w : World) (n : Nat) (N : Int) (hN : N = (n : Int)) (hn : n ≤ 1000000) : ∃ w', (Instr.makeSlice 30 (.int .i64 N) (.int .i64 N)).run Try.prog w = .ok (.slice (some ⟨w.heap.size, 0, none⟩) n n) w' ∧
    (convert 30 9 (.slice (some ⟨w.heap.size, 0, none⟩) n n)).run Try.prog w' = .ok (.string (zs n)) w' ∧ Below w.heap.size w w' := by
  subst hN
  obtain ⟨i0, hi, hz0, hz1, hz2⟩ := info_parts info5
  have hr := run_make (P := Try.prog) w 30 5 i0 (.int .u8 0) under30 hi hz0 .i64 .i64 (n : Int) (n : Int) (by omega) (by omega) (by rw [hz2]; omega) (by omega)
  simp only [Int.toNat_natCast] at hr
  refine ⟨_, hr, ?_, (Below.refl _ _).alloc (Nat.le_refl _) _⟩
  rw [run_convert_bytes_arg _ 30 5 under30 under5 w.heap.size 0 n n (List.replicate n 0) (by simp) (fun i hi => by
    rw [World.cell?_alloc_new, hz1]
    simp [madeCells, List.getD_eq_getElem?_getD, hi, Value.cells, Nat.mod_one]
    ) 9 under9]
  unfold strOfNums zs
  simp
set_option maxHeartbeats 1000000 in
/-- Same of two lists of numbers that are the same. -/
theorem same_any (g g' n c c' : Nat) (f : Nat → Int) (hn : n ≤ 1000000) (w : World) (ra : ∀ i, i < n → w.cell? ⟨g, i, none⟩ = some (.int .i64 (f i))) (rb : ∀ i, i < n → w.cell? ⟨g', i, none⟩ = some (.int .i64 (f i))) :
    Calls Try.prog 9 #[.slice (some ⟨g, 0, none⟩) n c, .slice (some ⟨g', 0, none⟩) n c'] w fun e w' => e = .returned (.bool true) ∧ Below w.heap.size w w' := by
  have ne : ((n : Int) != (n : Int)) = false := by simp
  go_enter Try.func9, Try.ntmps9
  go_wp2_with fail
  go_loopw [5] (fun i wr => ∃ j m : Nat, j ≤ n ∧ i = .int .i64 (j : Int) ∧ Hid (wr = w.drewN m)) (fun i _ => n - (intOf i).toNat)
  case atStart => exact ⟨0, 0, by omega, rfl, rfl⟩
  case round =>
    obtain ⟨j, m, hj, rfl, HW⟩ := hrel
    by_cases hlt : j < n
    · have c1 : wr.cell? ⟨g, j, none⟩ = some (.int .i64 (f j)) := (by rw [HW.out]; exact ra j hlt)
      have c2 : wr.cell? ⟨g', j, none⟩ = some (.int .i64 (f j)) := (by rw [HW.out]; exact rb j hlt)
      clear ra rb
      have hi1 : (j : Int) < (n : Int) := by omega
      go_wp2
      go_quiet (fail)
      go_wp2
      go_roundw
      case rel => exact ⟨j + 1, m + nq, by omega, by go_num, by show _ = _; rw [HW.out, World.drewN_drewN]⟩
      case measure => simp [intOf]; omega
    · go_wp2
      go_ret
      exact ⟨rfl, by rw [HW.out]; exact below_drewN (Below.refl _ _) m⟩
set_option maxHeartbeats 1000000 in
/-- 'is', where Alloc answers so. -/
theorem is_any (x S : Nat) (hx : x ≠ 0) (s : St) (d : ByteArray) (hd : d.size ≤ 281474976710656) (c k : Nat) (cI kI : Int) (hcI : cI = (c : Int)) (hkI : kI = (k : Int)) (w : World) (o : (Nat → Nat × Nat)) (h : IsSlab w o x S s) (he : (s.alloc d).1 = (c, k, 0)) :
    Calls Try.prog 11 #[.pointer (some ⟨S, 0, none⟩), .string d, .int .i64 cI, .int .i64 kI] w fun e w' => e = .returned (.bool true) ∧ AllocP w o x S s d w' := by
  subst hcI hkI
  go_enter Try.func11, Try.ntmps11
  go_wp2_with fail
  refine (alloc_any x S hx s d hd _ o h).mono ?_
  rintro e w2 ⟨rfl, o2, I2, F2⟩
  rw [he]
  unfold ansV
  have HI : Hid (IsSlab w2 o2 x S (s.alloc d).2) := I2
  have HF : Hid (Fr (fun t => t.1 = x) o o2 w w2) := F2
  have b1 : ((c : Int) == (c : Int)) = true := by simp
  have b2 : ((k : Int) == (k : Int)) = true := by simp
  clear I2 F2 he h
  go_wp2_with fail
  go_ret
  have B : Below w2.heap.size w2 (w2.alloc (.cells #[.int .i64 (c : Int), .int .i64 (k : Int)] 34)) := (Below.refl _ _).alloc (Nat.le_refl _) _
  exact ⟨rfl, o2, HI.out.below B, HF.out.trans (Fr.ofBelow _ o2 B)⟩
/-- Nothing has a mark yet. -/
def o0 : (Nat → Nat × Nat) := fun _ => (0, 0)
theorem new_n {pages page n m : Nat} (h : Ok (St.new pages page n)) (h1 : sz m ≤ page) (h2 : page < sz (m + 1)) : n = m + 1 := by
  have a := (h.n1 m).2 h1
  have b : ¬ (m + 1 < n) := fun e => by have := (h.n1 (m + 1)).1 e; have : sz (m + 1) ≤ page := this; omega
  have a : m < n := a
  omega
/-- The chapter's runs, as plain data. -/
def r0 : St := St.new 2 128 2
def r1 : St := (r0.alloc (zs 70)).2
def r2 : St := (r1.alloc ⟨#[97]⟩).2
def r3 : St := (r2.alloc ⟨#[98]⟩).2
def r4 : St := r3.free 0 0
def r5 : St := (r4.alloc ⟨#[99]⟩).2
theorem run1 : (r0.alloc (zs 70)).1 = (1, 0, 0) := by kernel_rfl
theorem run2 : (r1.alloc ⟨#[97]⟩).1 = (0, 0, 0) := by kernel_rfl
theorem run3 : (r2.alloc ⟨#[98]⟩).1 = (0, 1, 0) := by kernel_rfl
theorem run3p : r3.left = 0 ∧ r3.pages = 2 := ⟨by kernel_rfl, by kernel_rfl⟩
theorem run4 : (r3.alloc ⟨#[99]⟩).1 = (0, 0, 6) := by kernel_rfl
theorem run4s : (r3.alloc ⟨#[99]⟩).2 = r3 := (r3.alloc_bad _ (by rw [run4]; decide)).1
theorem run5 : r3.has 0 0 = true := by kernel_rfl
theorem run6 : r4.has 0 0 = false := by kernel_rfl
theorem run6s : r4.free 0 0 = r4 := by unfold St.free; rw [run6]; rfl
theorem run7 : (r4.alloc ⟨#[99]⟩).1 = (0, 0, 0) := by kernel_rfl
theorem run8 : (r5.alloc (zs 200)).1 = (0, 0, 2) := by kernel_rfl
set_option maxHeartbeats 2000000 in
theorem runs_any (w : World) : Calls Try.prog 3 #[] w fun e w' => e = .returned (.bool true) ∧ Below w.heap.size w w' := by
  go_enter Try.func3, Try.ntmps3
  go_wp2_with fail
  refine (new_yes 1 2 128 2 128 rfl rfl (by omega) (by omega) (by omega) (by omega) _ o0 (fun b _ e => by cases e)).mono ?_
  rintro e w1 ⟨S, rfl, o1, n, I1, F1⟩
  have hn2 : n = 2 := new_n (m := 1) I1.ok (by decide) (by decide)
  subst hn2
  have HF1 : Hid (Fr (fun t => t.1 = 1) o0 o1 w w1) := F1.mono (fun _ h => h.elim)
  have HI1 : Hid (IsSlab w1 o1 1 S (St.new 2 128 2)) := I1
  clear F1 I1
  go_wp2_with fail
  refine (classes_any 1 S _ _ o1 HI1.out).mono ?_
  rintro e w2 ⟨g, rfl, hg, hc, B2⟩
  have en : (St.new 2 128 2).n = 2 := rfl
  rw [en] at hc ⊢
  have hc0 := hc 0 (by omega)
  have hc1 := hc 1 (by omega)
  have HF2 : Hid (Fr (fun t => t.1 = 1) o0 o1 w w2) := HF1.out.trans (Fr.ofBelow _ o1 B2)
  have HI2 : Hid (IsSlab w2 o1 1 S r0) := HI1.out.below B2
  clear hc en B2 HF1 HI1 hg
  go_wp2_with fail
  have B3 : Below w2.heap.size w2 (w2.alloc (.cells #[.int .i64 64, .int .i64 128] 3)) := (Below.refl _ _).alloc (Nat.le_refl _) _
  refine (same_any g w2.heap.size 2 2 2 (fun i => ((sz i : Nat) : Int)) (by omega) _ (fun i hi => ?_) (fun i hi => ?_)).mono ?_
  · have : i = 0 ∨ i = 1 := by omega
    rcases this with rfl | rfl
    · exact cell_up B3 hc0
    · exact cell_up B3 hc1
  · have : i = 0 ∨ i = 1 := by omega
    rcases this with rfl | rfl
    · rw [World.cell?_alloc_new]; rfl
    · rw [World.cell?_alloc_new]; rfl
  rintro e w4 ⟨rfl, B4⟩
  have HF4 : Hid (Fr (fun t => t.1 = 1) o0 o1 w w4) := (HF2.out.trans (Fr.ofBelow _ o1 B3)).trans (Fr.ofBelow _ o1 B4)
  have HI4 : Hid (IsSlab w4 o1 1 S r0) := (HI2.out.below B3).below B4
  clear B3 B4 HF2 HI2 hc0 hc1
  obtain ⟨w5, hmk, hcv, B5⟩ := make_zs w4 70 70 rfl (by omega)
  have HF5 : Hid (Fr (fun t => t.1 = 1) o0 o1 w w5) := HF4.out.trans (Fr.ofBelow _ o1 B5)
  have HI5 : Hid (IsSlab w5 o1 1 S r0) := HI4.out.below B5
  clear B5 HF4 HI4
  go_wp2_with fail
  refine (is_any 1 S (by decide) r0 (zs 70) (by rw [zs_size]; omega) 1 0 1 0 rfl rfl _ o1 HI5.out run1).mono ?_
  rintro e w6 ⟨rfl, o6, I6, F6⟩
  have HI6 : Hid (IsSlab w6 o6 1 S r1) := I6
  have HF6 : Hid (Fr (fun t => t.1 = 1) o0 o6 w w6) := HF5.out.trans F6
  clear I6 F6 HI5 HF5 hmk hcv
  go_wp2_with fail
  refine (is_any 1 S (by decide) r1 ⟨#[97]⟩ (by decide) 0 0 0 0 rfl rfl _ o6 HI6.out run2).mono ?_
  rintro e w7 ⟨rfl, o7, I7, F7⟩
  have HI7 : Hid (IsSlab w7 o7 1 S r2) := I7
  have HF7 : Hid (Fr (fun t => t.1 = 1) o0 o7 w w7) := HF6.out.trans F7
  clear I7 F7 HI6 HF6
  go_wp2_with fail
  refine (is_any 1 S (by decide) r2 ⟨#[98]⟩ (by decide) 0 1 0 1 rfl rfl _ o7 HI7.out run3).mono ?_
  rintro e w8 ⟨rfl, o8, I8, F8⟩
  have HI8 : Hid (IsSlab w8 o8 1 S r3) := I8
  have HF8 : Hid (Fr (fun t => t.1 = 1) o0 o8 w w8) := HF7.out.trans F8
  clear I8 F8 HI7 HF7
  go_wp2_with fail
  refine (pages_any 1 S r3 _ o8 HI8.out).mono ?_
  rintro e w9 ⟨rfl, B9⟩
  have HI9 : Hid (IsSlab w9 o8 1 S r3) := HI8.out.below B9
  have HF9 : Hid (Fr (fun t => t.1 = 1) o0 o8 w w9) := HF8.out.trans (Fr.ofBelow _ o8 B9)
  rw [run3p.1, run3p.2]
  clear B9 HI8 HF8
  go_wp2_with fail
  refine (alloc_any 1 S (by decide) r3 ⟨#[99]⟩ (by decide) _ o8 HI9.out).mono ?_
  rintro e w10 ⟨rfl, o10, I10, F10⟩
  rw [run4s] at I10
  rw [run4]
  unfold ansV
  have B11 : Below w10.heap.size w10 (w10.alloc (.cells #[.int .i64 0, .int .i64 0] 34)) := (Below.refl _ _).alloc (Nat.le_refl _) _
  have HI11 : Hid (IsSlab (w10.alloc (.cells #[.int .i64 0, .int .i64 0] 34)) o10 1 S r3) := I10.below B11
  have HF11 : Hid (Fr (fun t => t.1 = 1) o0 o10 w (w10.alloc (.cells #[.int .i64 0, .int .i64 0] 34))) := (HF9.out.trans F10).trans (Fr.ofBelow _ o10 B11)
  clear I10 F10 HI9 HF9 B11
  go_wp2_with fail
  refine (free_any 1 S (by decide) r3 0 0 _ o10 HI11.out).mono ?_
  rintro e w12 ⟨rfl, o12, I12, F12⟩
  rw [run5]
  have HI12 : Hid (IsSlab w12 o12 1 S r4) := I12
  have HF12 : Hid (Fr (fun t => t.1 = 1) o0 o12 w w12) := HF11.out.trans F12
  clear I12 F12 HI11 HF11
  go_wp2_with fail
  refine (free_any 1 S (by decide) r4 0 0 _ o12 HI12.out).mono ?_
  rintro e w13 ⟨rfl, o13, I13, F13⟩
  rw [run6]
  rw [run6s] at I13
  have HI13 : Hid (IsSlab w13 o13 1 S r4) := I13
  have HF13 : Hid (Fr (fun t => t.1 = 1) o0 o13 w w13) := HF12.out.trans F13
  clear I13 F13 HI12 HF12
  go_wp2_with fail
  refine (is_any 1 S (by decide) r4 ⟨#[99]⟩ (by decide) 0 0 0 0 rfl rfl _ o13 HI13.out run7).mono ?_
  rintro e w14 ⟨rfl, o14, I14, F14⟩
  obtain ⟨w15, hmk, hcv, B15⟩ := make_zs w14 200 200 rfl (by omega)
  have HI15 : Hid (IsSlab w15 o14 1 S r5) := IsSlab.below I14 B15
  have HF15 : Hid (Fr (fun t => t.1 = 1) o0 o14 w w15) := (HF13.out.trans F14).trans (Fr.ofBelow _ o14 B15)
  clear I14 F14 HI13 HF13 B15
  go_wp2_with fail
  refine (alloc_any 1 S (by decide) r5 (zs 200) (by rw [zs_size]; omega) _ o14 HI15.out).mono ?_
  rintro e w16 ⟨rfl, o16, I16, F16⟩
  rw [run8]
  unfold ansV
  have HF16 : Hid (Fr (fun t => t.1 = 1) o0 o16 w w16) := HF15.out.trans F16
  clear I16 F16 HI15 HF15 hmk hcv
  go_wp2_with fail
  go_ret
  refine ⟨rfl, ?_⟩
  exact (HF16.out.below (N := w.heap.size) (Nat.le_refl _) (fun b _ e => by cases e)).alloc HF16.out.size _
end Go.Proofs.Ytjokabpdaihgpaa
