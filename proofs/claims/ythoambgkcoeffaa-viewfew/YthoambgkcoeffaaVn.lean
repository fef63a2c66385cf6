/-
  NEW VIEWS, of program and reference.
-/
import Derived.Test.YthoambgkcoeffaaVc
namespace Go.Proofs.Ythoambgkcoeffaa
open Go.RowKit
set_option maxRecDepth 100000
set_option maxHeartbeats 1000000

/-- A new view. -/
def nw (n : Nat) : Vs := List.replicate n (0, 0)
theorem nw_len (n : Nat) : (nw n).length = n := List.length_replicate
theorem nw_at (n i : Nat) : (nw n).getD i (0, 0) = (0, 0) := by
  unfold nw
  rw [List.getD_eq_getElem?_getD, List.getElem?_replicate]
  split <;> rfl
theorem nw_set (n i : Nat) (h : i < n) : (nw n).set i (0, 0) = nw n := set_self _ _ _ (by unfold nw; rw [List.getElem?_replicate, if_pos h])
theorem nw_ok (n : Nat) : (nw n).ok 0 := fun p hp => by
  have := List.eq_of_mem_replicate hp
  subst this
  exact ⟨.inl rfl, Int.le_refl _, Int.le_refl _⟩
theorem cv_nw (n : Nat) : madeCells (Value.agg #[.int .i64 0, .int .i64 0]).cells (n * 2) = (cv (nw n)).toArray := by
  apply Array.ext'
  simp [madeCells, Value.cells]
  apply List.ext_getElem
  · rw [cv_length, nw_len]; simp
  · intro i h1 h2
    have e1 : (cv (nw n))[i] = .int .i64 0 := by
      obtain ⟨p, hp, h⟩ := List.mem_flatMap.1 (List.getElem_mem h2)
      have := List.eq_of_mem_replicate hp
      subst this
      simpa using h
    rw [e1, List.getElem_map, List.getElem_range]
    rcases Nat.mod_two_eq_zero_or_one i with h | h <;> rw [h] <;> rfl
theorem make_stands (w : World) (n : Nat) (hn : n ≤ 1000000) : (Instr.makeSlice 40 (.int .i64 (n : Int)) (.int .i64 (n : Int))).run Try.prog w = .ok (.slice (some ⟨w.heap.size, 0, none⟩) n n) (w.alloc (.cells (cv (nw n)).toArray 44)) := by
  obtain ⟨i0, hi, hz0, hz1, hz2⟩ := info_parts info44
  have hr := run_make (P := Try.prog) w 40 44 i0 (.agg #[.int .i64 0, .int .i64 0]) under40 hi hz0 .i64 .i64 (n : Int) (n : Int) (by omega) (by omega) (by rw [hz2]; omega) (by omega)
  simp only [Int.toNat_natCast] at hr
  rw [hz1, cv_nw] at hr
  exact hr
theorem make_ints (w : World) (n : Nat) (hn : n ≤ 1000000) : (Instr.makeSlice 31 (.int .i64 (n : Int)) (.int .i64 (n : Int))).run Try.prog w = .ok (.slice (some ⟨w.heap.size, 0, none⟩) n n) (w.alloc (.cells (ic (List.replicate n 0)).toArray 3)) := by
  obtain ⟨i0, hi, hz0, hz1, hz2⟩ := info_parts info3
  have hr := run_make (P := Try.prog) w 31 3 i0 (.int .i64 0) under31 hi hz0 .i64 .i64 (n : Int) (n : Int) (by omega) (by omega) (by rw [hz2]; omega) (by omega)
  simp only [Int.toNat_natCast] at hr
  have e : madeCells (Value.int .i64 0).cells n = (ic (List.replicate n 0)).toArray := by
    apply Array.ext'
    simp [madeCells, ic, Value.cells, Nat.mod_one]
    apply List.ext_getElem <;> simp
  rw [hz1, Nat.mul_one, e] at hr
  exact hr
theorem new_no (n : Int) (h : ¬ (1 ≤ n ∧ n ≤ 12)) (w : World) : Calls Try.prog 7 #[.int .i64 n] w fun e w' => e = .returned (.tuple #[.pointer none, .int .i64 1]) ∧ w = w' := by
  by_cases c : n < 1
  · have d : decide (n < 1) = true := by simp [c]
    clear c h
    go_enter Try.func7, Try.ntmps7
    go_wp2_with fail
    go_ret2
    exact ⟨rfl, rfl⟩
  have d : decide (n < 1) = false := by simp; omega
  have d2 : decide (12 < n) = true := by simp; omega
  clear c h
  go_enter Try.func7, Try.ntmps7
  go_wp2_with fail
  go_ret2
  exact ⟨rfl, rfl⟩
theorem new_start (w : World) (o : Nat → Nat × Nat) (n : Nat) (h : n ≤ 12) :
    let w2 := w.alloc (.cells (cv (nw n)).toArray 44)
    let w3 := w2.alloc (.cells #[.slice (some ⟨w.heap.size, 0, none⟩) n n] 42)
    ∃ o3, IsG w3 o3 w2.heap.size (nw n) w.heap.size ∧ Fr (fun _ => False) o o3 w w3 := by
  intro w2 w3
  have o1 : OwnK w2 (lab o w.heap.size (10, 1)) (10, 1) 2 (.slice (some ⟨w.heap.size, 0, none⟩) n n) n (cv (nw n)) := by
    have := own_new (w := w) (o := o) (t := (10, 1)) (k := 2) (n := n) (cap := n) (e := 44) (cv (nw n)) #[] (by rw [cv_length, nw_len]) (cv_one _) (Nat.le_refl _) (by unfold maxLen; omega) (by simp)
    rw [Array.append_empty] at this
    exact this
  have f1 : Fr (fun _ => False) o (lab o w.heap.size (10, 1)) w w2 := Fr.new _ o w _ _
  have f2 : Fr (fun _ => False) (lab o w.heap.size (10, 1)) (lab (lab o w.heap.size (10, 1)) w2.heap.size (10, 0)) w2 w3 := Fr.new _ _ w2 _ _
  refine ⟨_, ⟨lab_same _ _ _, ?_, ?_, by rw [nw_len]; exact h⟩, f1.trans f2⟩
  · rw [nw_len]; exact World.cell?_alloc_new _ _ _ _
  · rw [nw_len]; exact o1.fr f2 id
theorem new_yes (n : Nat) (h1 : 1 ≤ n) (h2 : n ≤ 12) (N : Int) (hN : N = (n : Int)) (w : World) (o : Nat → Nat × Nat) :
    Calls Try.prog 7 #[.int .i64 N] w fun e w' => ∃ X o', e = .returned (.tuple #[.pointer (some ⟨X, 0, none⟩), .int .i64 0]) ∧ IsV w' o' X (nw n) ∧ Fr (fun _ => False) o o' w w' := by
  subst hN
  have d1 : decide ((n : Int) < 1) = false := by simp; omega
  have d2 : decide (12 < (n : Int)) = false := by simp; omega
  have hmk := make_stands w n (by omega)
  obtain ⟨o3, I3, F3⟩ := new_start w o n h2
  obtain ⟨w2, hw2⟩ : ∃ w2, w2 = w.alloc (.cells (cv (nw n)).toArray 44) := ⟨_, rfl⟩
  obtain ⟨g, hg⟩ : ∃ g, g = w.heap.size := ⟨_, rfl⟩
  rw [← hw2, ← hg] at hmk
  rw [← hw2, ← hg] at I3 F3
  have HI := hid I3
  have HF := hid F3
  have HG := hid (show w.heap.size ≤ g by omega)
  clear I3 F3 hw2 hg h1
  go_enter Try.func7, Try.ntmps7
  go_wp2_with fail
  obtain ⟨X, hX⟩ : ∃ X, X = w2.heap.size := ⟨_, rfl⟩
  have c0 := HI.out.c
  rw [nw_len] at c0
  go_wp2_with fail
  go_loopw [21] (fun i wr => ∃ j : Nat, j ≤ n ∧ i = .int .i64 (j : Int) ∧ Hid (IsG wr o3 w2.heap.size (nw n) g) ∧ Hid (Fr (fun _ => False) o o3 w wr)) (fun i _ => n - (intOf i).toNat)
  case atStart => exact ⟨0, by omega, rfl, HI, HF⟩
  case round =>
    clear HI HF hmk c0
    obtain ⟨j, hj, rfl, HI, HF⟩ := hrel
    have c0 := HI.out.c
    rw [nw_len] at c0
    by_cases hlt : j < n
    · have hjl : j < (nw n).length := by rw [nw_len]; exact hlt
      obtain ⟨c1, _, z1, _⟩ := HI.out.at hjl
      have HI2 : Hid (IsG (wr.setCell ⟨g, j * 2, none⟩ (.int .i64 0)) o3 w2.heap.size (nw n) g) := by
        have := (HI.out.set0 hjl 0).1
        rw [nw_at, nw_set n j hlt] at this
        exact this
      have HF2 : Hid (Fr (fun _ => False) o o3 w (wr.setCell ⟨g, j * 2, none⟩ (.int .i64 0))) := HF.out.setNew HG.out _
      have hi1 : (j : Int) < (n : Int) := by omega
      rw [nw_at] at c1
      clear HI HF hjl
      go_wp2_with fail
      exact ⟨⟨j + 1, by omega, by go_num, HI2, HF2⟩, by simp [intOf]; omega⟩
    · go_wp2_with fail
      go_ret2
      exact ⟨_, o3, rfl, ⟨g, HI.out⟩, HF.out⟩
theorem rnew_no (n : Int) (h : ¬ (1 ≤ n ∧ n ≤ 12)) (w : World) : Calls Try.prog 13 #[.int .i64 n] w fun e w' => e = .returned (.tuple #[.pointer none, .int .i64 1]) ∧ w = w' := by
  by_cases c : n < 1
  · have d : decide (n < 1) = true := by simp [c]
    clear c h
    go_enter Try.func13, Try.ntmps13
    go_wp2_with fail
    go_ret2
    exact ⟨rfl, rfl⟩
  have d : decide (n < 1) = false := by simp; omega
  have d2 : decide (12 < n) = true := by simp; omega
  clear c h
  go_enter Try.func13, Try.ntmps13
  go_wp2_with fail
  go_ret2
  exact ⟨rfl, rfl⟩
theorem ic_nw (n : Nat) : ic ((nw n).map Prod.fst) = ic (List.replicate n 0) ∧ ic ((nw n).map Prod.snd) = ic (List.replicate n 0) := by
  unfold nw
  rw [List.map_replicate, List.map_replicate]
  exact ⟨rfl, rfl⟩
/-- Two rows of noughts, whichever is made first. -/
theorem rnew_fin (w : World) (o : Nat → Nat × Nat) (n : Nat) (h : n ≤ 12) {w1 w2 w3 : World} (e1 : w1 = w.alloc (.cells (ic (List.replicate n 0)).toArray 3)) (e2 : w2 = w1.alloc (.cells (ic (List.replicate n 0)).toArray 3)) {a b : Nat} (hab : (a = w.heap.size ∧ b = w.heap.size + 1) ∨ (a = w.heap.size + 1 ∧ b = w.heap.size))
    (e3 : w3 = w2.alloc (.cells #[.slice (some ⟨a, 0, none⟩) n n, .slice (some ⟨b, 0, none⟩) n n] 36)) : ∃ o3, IsR w3 o3 (w.heap.size + 1 + 1) (nw n) ∧ Fr (fun _ => False) o o3 w w3 := by
  have s1 : w.heap.size + 1 = w1.heap.size := by rw [e1]; simp
  have s2 : w.heap.size + 1 + 1 = w2.heap.size := by rw [e2, s1]; simp
  rw [s2]
  rw [s1] at hab
  clear s1 s2
  subst e1 e2 e3
  have own (w : World) (o : Nat → Nat × Nat) (t : Nat × Nat) : OwnK (w.alloc (.cells (ic (List.replicate n 0)).toArray 3)) (lab o w.heap.size t) t 1 (.slice (some ⟨w.heap.size, 0, none⟩) n n) n (ic (List.replicate n 0)) := by
    have := own_new (w := w) (o := o) (t := t) (k := 1) (n := n) (cap := n) (e := 3) (ic (List.replicate n 0)) #[] (by rw [ic_length, Nat.mul_one, List.length_replicate]) (ic_one _) (Nat.le_refl _) (by unfold maxLen; omega) (by simp)
    rw [Array.append_empty] at this
    exact this
  rcases hab with ⟨rfl, rfl⟩ | ⟨rfl, rfl⟩
  · have f1 := Fr.new (fun _ => False) o w (.cells (ic (List.replicate n 0)).toArray 3) (5, 1)
    have f2 := Fr.new (fun _ => False) (lab o w.heap.size (5, 1)) (w.alloc (.cells (ic (List.replicate n 0)).toArray 3)) (.cells (ic (List.replicate n 0)).toArray 3) (5, 2)
    have f3 := Fr.new (fun _ => False) (lab (lab o w.heap.size (5, 1)) (w.alloc (.cells (ic (List.replicate n 0)).toArray 3)).heap.size (5, 2)) ((w.alloc (.cells (ic (List.replicate n 0)).toArray 3)).alloc (.cells (ic (List.replicate n 0)).toArray 3)) (.cells #[.slice (some ⟨w.heap.size, 0, none⟩) n n, .slice (some ⟨(w.alloc (.cells (ic (List.replicate n 0)).toArray 3)).heap.size, 0, none⟩) n n] 36) (5, 0)
    refine ⟨_, ⟨w.heap.size, (w.alloc (.cells (ic (List.replicate n 0)).toArray 3)).heap.size, lab_same _ _ _, ?_, ?_, ?_, ?_, by rw [nw_len]; exact h⟩, (f1.trans f2).trans f3⟩
    · rw [nw_len]; exact World.cell?_alloc_new _ _ _ _
    · rw [nw_len]; exact World.cell?_alloc_new _ _ _ _
    · rw [nw_len, (ic_nw n).1]; exact ((own w o (5, 1)).fr f2 id).fr f3 id
    · rw [nw_len, (ic_nw n).2]; exact (own _ _ (5, 2)).fr f3 id
  · have f1 := Fr.new (fun _ => False) o w (.cells (ic (List.replicate n 0)).toArray 3) (5, 2)
    have f2 := Fr.new (fun _ => False) (lab o w.heap.size (5, 2)) (w.alloc (.cells (ic (List.replicate n 0)).toArray 3)) (.cells (ic (List.replicate n 0)).toArray 3) (5, 1)
    have f3 := Fr.new (fun _ => False) (lab (lab o w.heap.size (5, 2)) (w.alloc (.cells (ic (List.replicate n 0)).toArray 3)).heap.size (5, 1)) ((w.alloc (.cells (ic (List.replicate n 0)).toArray 3)).alloc (.cells (ic (List.replicate n 0)).toArray 3)) (.cells #[.slice (some ⟨(w.alloc (.cells (ic (List.replicate n 0)).toArray 3)).heap.size, 0, none⟩) n n, .slice (some ⟨w.heap.size, 0, none⟩) n n] 36) (5, 0)
    refine ⟨_, ⟨(w.alloc (.cells (ic (List.replicate n 0)).toArray 3)).heap.size, w.heap.size, lab_same _ _ _, ?_, ?_, ?_, ?_, by rw [nw_len]; exact h⟩, (f1.trans f2).trans f3⟩
    · rw [nw_len]; exact World.cell?_alloc_new _ _ _ _
    · rw [nw_len]; exact World.cell?_alloc_new _ _ _ _
    · rw [nw_len, (ic_nw n).1]; exact (own _ _ (5, 1)).fr f3 id
    · rw [nw_len, (ic_nw n).2]; exact ((own w o (5, 2)).fr f2 id).fr f3 id
theorem rnew_yes (n : Nat) (h1 : 1 ≤ n) (h2 : n ≤ 12) (N : Int) (hN : N = (n : Int)) (w : World) (o : Nat → Nat × Nat) :
    Calls Try.prog 13 #[.int .i64 N] w fun e w' => ∃ Y o', e = .returned (.tuple #[.pointer (some ⟨Y, 0, none⟩), .int .i64 0]) ∧ IsR w' o' Y (nw n) ∧ Fr (fun _ => False) o o' w w' := by
  subst hN
  have d1 : decide ((n : Int) < 1) = false := by simp; omega
  have d2 : decide (12 < (n : Int)) = false := by simp; omega
  have hm1 := make_ints w.drew n (by omega)
  have hm2 := make_ints (w.alloc (.cells (ic (List.replicate n 0)).toArray 3)).drew n (by omega)
  have HFIN := hid (fun w1 w2 w3 a b e1 e2 hab e3 => rnew_fin w.drew o n h2 (w1 := w1) (w2 := w2) (w3 := w3) (a := a) (b := b) e1 e2 hab e3)
  clear h1 h2
  go_enter Try.func13, Try.ntmps13
  go_wp2_with fail
  go_region_law (fail)
  all_goals go_wp2_with fail
  · refine bodyPost_ret (v := .tuple #[.pointer (some ⟨w.heap.size + 1 + 1, 0, none⟩), .int .i64 0]) (by simp [results, Try.results13, go_sem]) rfl ?_
    obtain ⟨o3, a, f⟩ := HFIN.out _ _ _ w.heap.size (w.heap.size + 1) rfl rfl (.inl ⟨rfl, rfl⟩) rfl
    exact ⟨_, o3, rfl, a, (Fr.drew1 _ o w).trans f⟩
  · refine bodyPost_ret (v := .tuple #[.pointer (some ⟨w.heap.size + 1 + 1, 0, none⟩), .int .i64 0]) (by simp [results, Try.results13, go_sem]) rfl ?_
    obtain ⟨o3, a, f⟩ := HFIN.out _ _ _ (w.heap.size + 1) w.heap.size rfl rfl (.inr ⟨rfl, rfl⟩) rfl
    exact ⟨_, o3, rfl, a, (Fr.drew1 _ o w).trans f⟩
end Go.Proofs.Ythoambgkcoeffaa
