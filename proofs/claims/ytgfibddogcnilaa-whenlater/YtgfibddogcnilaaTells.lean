/-
  WHENTELLS walked.
-/
import Derived.Test.YtgfibddogcnilaaNum
namespace Go.Proofs.Ytgfibddogcnilaa
open Go.RowKit
set_option linter.unusedVariables false

theorem it_neg {n : Int} (h : n < 0) : it n = 0 := by unfold it; rw [if_pos h]
theorem it_big {n : Int} (h : 1099511627776 < n) : it n = 1099511627776 := by unfold it; rw [if_neg (by omega), if_neg (by omega)]
theorem it_mid {n : Int} (h : 0 ≤ n) (h' : n ≤ 1099511627776) : it n = n := by unfold it; rw [if_neg (by omega)]; split <;> omega
theorem it_top {n : Int} (h : 1099511627776 ≤ n) : it n = 1099511627776 := by unfold it; rw [if_neg (by omega), if_neg (by omega)]
set_option maxRecDepth 100000 in
set_option maxHeartbeats 1000000 in
theorem tells_neg_neg (a d : Int) (n : Int) (t : Int) (hn : n < 0) (ht : t < 0) (w : World) : Calls Try.prog 4 #[.int .i64 a, .int .i64 n, .int .i64 d, .int .i64 t] w fun e w' => e = .returned (.bool true) ∧ w = w' := by
  have e1 : it n = 0 := it_neg hn
  have e2 : it t = 0 := it_neg ht
  have HL : Hid (it (it n + it t) = 0) := by show _ = _; (first | rw [e1, e2] | rw [e1]); exact (it_mid (by omega) (by omega)).trans (by omega)
  obtain ⟨D, hD⟩ : ∃ D, dl a n = D := ⟨_, rfl⟩
  have HD : Hid (dl a n = D) := hD
  obtain ⟨V, hV⟩ : ∃ V, lv d n = V := ⟨_, rfl⟩
  have HV : Hid (lv d n = V) := hV
  clear e1 e2 hD hV
  go_enter Try.func4, Try.ntmps4
  go_wp2_with fail
  refine (dead_c a n D HD.out w).mono ?_
  rintro e w1 ⟨rfl, rfl⟩
  go_wp2_with fail
  refine (rdead_c a n D HD.out w).mono ?_
  rintro e w1 ⟨rfl, rfl⟩
  go_wp2_with fail
  refine (live_c d n V HV.out w).mono ?_
  rintro e w1 ⟨rfl, rfl⟩
  go_wp2_with fail
  refine (rlive_c d n V HV.out w).mono ?_
  rintro e w1 ⟨rfl, rfl⟩
  go_wp2_with fail
  refine (later_c n t (0) HL.out w).mono ?_
  rintro e w1 ⟨rfl, rfl⟩
  go_wp2_with fail
  refine (runs_any w).mono ?_
  rintro e w1 ⟨rfl, rfl⟩
  go_wp2
  go_ret
  exact ⟨rfl, rfl⟩
set_option maxRecDepth 100000 in
set_option maxHeartbeats 1000000 in
theorem tells_neg_zero (a d : Int) (n : Int) (hn : n < 0) (w : World) : Calls Try.prog 4 #[.int .i64 a, .int .i64 n, .int .i64 d, .int .i64 0] w fun e w' => e = .returned (.bool true) ∧ w = w' := by
  have e1 : it n = 0 := it_neg hn
  have e2 : it 0 = 0 := it_mid (Int.le_refl _) (by decide)
  have HL : Hid (it (it n + it 0) = 0) := by show _ = _; (first | rw [e1, e2] | rw [e1]); exact (it_mid (by omega) (by omega)).trans (by omega)
  obtain ⟨D, hD⟩ : ∃ D, dl a n = D := ⟨_, rfl⟩
  have HD : Hid (dl a n = D) := hD
  obtain ⟨V, hV⟩ : ∃ V, lv d n = V := ⟨_, rfl⟩
  have HV : Hid (lv d n = V) := hV
  clear e1 e2 hD hV
  go_enter Try.func4, Try.ntmps4
  go_wp2_with fail
  refine (dead_c a n D HD.out w).mono ?_
  rintro e w1 ⟨rfl, rfl⟩
  go_wp2_with fail
  refine (rdead_c a n D HD.out w).mono ?_
  rintro e w1 ⟨rfl, rfl⟩
  go_wp2_with fail
  refine (live_c d n V HV.out w).mono ?_
  rintro e w1 ⟨rfl, rfl⟩
  go_wp2_with fail
  refine (rlive_c d n V HV.out w).mono ?_
  rintro e w1 ⟨rfl, rfl⟩
  go_wp2_with fail
  refine (later_c n 0 (0) HL.out w).mono ?_
  rintro e w1 ⟨rfl, rfl⟩
  go_wp2_with fail
  refine (runs_any w).mono ?_
  rintro e w1 ⟨rfl, rfl⟩
  go_wp2
  go_ret
  exact ⟨rfl, rfl⟩
set_option maxRecDepth 100000 in
set_option maxHeartbeats 1000000 in
theorem tells_neg_big (a d : Int) (n : Int) (t : Int) (hn : n < 0) (ht : 1099511627776 < t) (w : World) : Calls Try.prog 4 #[.int .i64 a, .int .i64 n, .int .i64 d, .int .i64 t] w fun e w' => e = .returned (.bool true) ∧ w = w' := by
  have e1 : it n = 0 := it_neg hn
  have e2 : it t = 1099511627776 := it_big ht
  have HL : Hid (it (it n + it t) = 1099511627776) := by show _ = _; (first | rw [e1, e2] | rw [e1]); exact (it_top (by omega)).trans (by omega)
  obtain ⟨D, hD⟩ : ∃ D, dl a n = D := ⟨_, rfl⟩
  have HD : Hid (dl a n = D) := hD
  obtain ⟨V, hV⟩ : ∃ V, lv d n = V := ⟨_, rfl⟩
  have HV : Hid (lv d n = V) := hV
  clear e1 e2 hD hV
  go_enter Try.func4, Try.ntmps4
  go_wp2_with fail
  refine (dead_c a n D HD.out w).mono ?_
  rintro e w1 ⟨rfl, rfl⟩
  go_wp2_with fail
  refine (rdead_c a n D HD.out w).mono ?_
  rintro e w1 ⟨rfl, rfl⟩
  go_wp2_with fail
  refine (live_c d n V HV.out w).mono ?_
  rintro e w1 ⟨rfl, rfl⟩
  go_wp2_with fail
  refine (rlive_c d n V HV.out w).mono ?_
  rintro e w1 ⟨rfl, rfl⟩
  go_wp2_with fail
  refine (later_c n t (1099511627776) HL.out w).mono ?_
  rintro e w1 ⟨rfl, rfl⟩
  go_wp2_with fail
  refine (runs_any w).mono ?_
  rintro e w1 ⟨rfl, rfl⟩
  go_wp2
  go_ret
  exact ⟨rfl, rfl⟩
set_option maxRecDepth 100000 in
set_option maxHeartbeats 1000000 in
theorem tells_neg_mid (a d : Int) (n : Int) (t : Int) (hn : n < 0) (ht1 : 0 < t) (ht2 : t ≤ 1099511627776) (w : World) : Calls Try.prog 4 #[.int .i64 a, .int .i64 n, .int .i64 d, .int .i64 t] w fun e w' => e = .returned (.bool true) ∧ w = w' := by
  have e1 : it n = 0 := it_neg hn
  have e2 : it t = t := it_mid (by omega) (by omega)
  have HL : Hid (it (it n + it t) = t) := by show _ = _; (first | rw [e1, e2] | rw [e1]); exact (it_mid (by omega) (by omega)).trans (by omega)
  obtain ⟨D, hD⟩ : ∃ D, dl a n = D := ⟨_, rfl⟩
  have HD : Hid (dl a n = D) := hD
  obtain ⟨V, hV⟩ : ∃ V, lv d n = V := ⟨_, rfl⟩
  have HV : Hid (lv d n = V) := hV
  clear e1 e2 hD hV
  go_enter Try.func4, Try.ntmps4
  go_wp2_with fail
  refine (dead_c a n D HD.out w).mono ?_
  rintro e w1 ⟨rfl, rfl⟩
  go_wp2_with fail
  refine (rdead_c a n D HD.out w).mono ?_
  rintro e w1 ⟨rfl, rfl⟩
  go_wp2_with fail
  refine (live_c d n V HV.out w).mono ?_
  rintro e w1 ⟨rfl, rfl⟩
  go_wp2_with fail
  refine (rlive_c d n V HV.out w).mono ?_
  rintro e w1 ⟨rfl, rfl⟩
  go_wp2_with fail
  refine (later_c n t (t) HL.out w).mono ?_
  rintro e w1 ⟨rfl, rfl⟩
  go_wp2_with fail
  refine (runs_any w).mono ?_
  rintro e w1 ⟨rfl, rfl⟩
  go_wp2
  go_ret
  exact ⟨rfl, rfl⟩
set_option maxRecDepth 100000 in
set_option maxHeartbeats 1000000 in
theorem tells_zero_neg (a d : Int) (t : Int) (ht : t < 0) (w : World) : Calls Try.prog 4 #[.int .i64 a, .int .i64 0, .int .i64 d, .int .i64 t] w fun e w' => e = .returned (.bool true) ∧ w = w' := by
  have e1 : it 0 = 0 := it_mid (Int.le_refl _) (by decide)
  have e2 : it t = 0 := it_neg ht
  have HL : Hid (it (it 0 + it t) = 0) := by show _ = _; (first | rw [e1, e2] | rw [e1]); exact (it_mid (by omega) (by omega)).trans (by omega)
  obtain ⟨D, hD⟩ : ∃ D, dl a 0 = D := ⟨_, rfl⟩
  have HD : Hid (dl a 0 = D) := hD
  obtain ⟨V, hV⟩ : ∃ V, lv d 0 = V := ⟨_, rfl⟩
  have HV : Hid (lv d 0 = V) := hV
  clear e1 e2 hD hV
  go_enter Try.func4, Try.ntmps4
  go_wp2_with fail
  refine (dead_c a 0 D HD.out w).mono ?_
  rintro e w1 ⟨rfl, rfl⟩
  go_wp2_with fail
  refine (rdead_c a 0 D HD.out w).mono ?_
  rintro e w1 ⟨rfl, rfl⟩
  go_wp2_with fail
  refine (live_c d 0 V HV.out w).mono ?_
  rintro e w1 ⟨rfl, rfl⟩
  go_wp2_with fail
  refine (rlive_c d 0 V HV.out w).mono ?_
  rintro e w1 ⟨rfl, rfl⟩
  go_wp2_with fail
  refine (later_c 0 t (0) HL.out w).mono ?_
  rintro e w1 ⟨rfl, rfl⟩
  go_wp2_with fail
  refine (runs_any w).mono ?_
  rintro e w1 ⟨rfl, rfl⟩
  go_wp2
  go_ret
  exact ⟨rfl, rfl⟩
set_option maxRecDepth 100000 in
set_option maxHeartbeats 1000000 in
theorem tells_zero_zero (a d : Int)  (w : World) : Calls Try.prog 4 #[.int .i64 a, .int .i64 0, .int .i64 d, .int .i64 0] w fun e w' => e = .returned (.bool true) ∧ w = w' := by
  have e1 : it 0 = 0 := it_mid (Int.le_refl _) (by decide)
  have e2 : it 0 = 0 := it_mid (Int.le_refl _) (by decide)
  have HL : Hid (it (it 0 + it 0) = 0) := by show _ = _; (first | rw [e1, e2] | rw [e1]); exact (it_mid (by omega) (by omega)).trans (by omega)
  obtain ⟨D, hD⟩ : ∃ D, dl a 0 = D := ⟨_, rfl⟩
  have HD : Hid (dl a 0 = D) := hD
  obtain ⟨V, hV⟩ : ∃ V, lv d 0 = V := ⟨_, rfl⟩
  have HV : Hid (lv d 0 = V) := hV
  clear e1 e2 hD hV
  go_enter Try.func4, Try.ntmps4
  go_wp2_with fail
  refine (dead_c a 0 D HD.out w).mono ?_
  rintro e w1 ⟨rfl, rfl⟩
  go_wp2_with fail
  refine (rdead_c a 0 D HD.out w).mono ?_
  rintro e w1 ⟨rfl, rfl⟩
  go_wp2_with fail
  refine (live_c d 0 V HV.out w).mono ?_
  rintro e w1 ⟨rfl, rfl⟩
  go_wp2_with fail
  refine (rlive_c d 0 V HV.out w).mono ?_
  rintro e w1 ⟨rfl, rfl⟩
  go_wp2_with fail
  refine (later_c 0 0 (0) HL.out w).mono ?_
  rintro e w1 ⟨rfl, rfl⟩
  go_wp2_with fail
  refine (runs_any w).mono ?_
  rintro e w1 ⟨rfl, rfl⟩
  go_wp2
  go_ret
  exact ⟨rfl, rfl⟩
set_option maxRecDepth 100000 in
set_option maxHeartbeats 1000000 in
theorem tells_zero_big (a d : Int) (t : Int) (ht : 1099511627776 < t) (w : World) : Calls Try.prog 4 #[.int .i64 a, .int .i64 0, .int .i64 d, .int .i64 t] w fun e w' => e = .returned (.bool true) ∧ w = w' := by
  have e1 : it 0 = 0 := it_mid (Int.le_refl _) (by decide)
  have e2 : it t = 1099511627776 := it_big ht
  have HL : Hid (it (it 0 + it t) = 1099511627776) := by show _ = _; (first | rw [e1, e2] | rw [e1]); exact (it_top (by omega)).trans (by omega)
  obtain ⟨D, hD⟩ : ∃ D, dl a 0 = D := ⟨_, rfl⟩
  have HD : Hid (dl a 0 = D) := hD
  obtain ⟨V, hV⟩ : ∃ V, lv d 0 = V := ⟨_, rfl⟩
  have HV : Hid (lv d 0 = V) := hV
  clear e1 e2 hD hV
  go_enter Try.func4, Try.ntmps4
  go_wp2_with fail
  refine (dead_c a 0 D HD.out w).mono ?_
  rintro e w1 ⟨rfl, rfl⟩
  go_wp2_with fail
  refine (rdead_c a 0 D HD.out w).mono ?_
  rintro e w1 ⟨rfl, rfl⟩
  go_wp2_with fail
  refine (live_c d 0 V HV.out w).mono ?_
  rintro e w1 ⟨rfl, rfl⟩
  go_wp2_with fail
  refine (rlive_c d 0 V HV.out w).mono ?_
  rintro e w1 ⟨rfl, rfl⟩
  go_wp2_with fail
  refine (later_c 0 t (1099511627776) HL.out w).mono ?_
  rintro e w1 ⟨rfl, rfl⟩
  go_wp2_with fail
  refine (runs_any w).mono ?_
  rintro e w1 ⟨rfl, rfl⟩
  go_wp2
  go_ret
  exact ⟨rfl, rfl⟩
set_option maxRecDepth 100000 in
set_option maxHeartbeats 1000000 in
theorem tells_zero_mid (a d : Int) (t : Int) (ht1 : 0 < t) (ht2 : t ≤ 1099511627776) (w : World) : Calls Try.prog 4 #[.int .i64 a, .int .i64 0, .int .i64 d, .int .i64 t] w fun e w' => e = .returned (.bool true) ∧ w = w' := by
  have e1 : it 0 = 0 := it_mid (Int.le_refl _) (by decide)
  have e2 : it t = t := it_mid (by omega) (by omega)
  have HL : Hid (it (it 0 + it t) = t) := by show _ = _; (first | rw [e1, e2] | rw [e1]); exact (it_mid (by omega) (by omega)).trans (by omega)
  obtain ⟨D, hD⟩ : ∃ D, dl a 0 = D := ⟨_, rfl⟩
  have HD : Hid (dl a 0 = D) := hD
  obtain ⟨V, hV⟩ : ∃ V, lv d 0 = V := ⟨_, rfl⟩
  have HV : Hid (lv d 0 = V) := hV
  clear e1 e2 hD hV
  go_enter Try.func4, Try.ntmps4
  go_wp2_with fail
  refine (dead_c a 0 D HD.out w).mono ?_
  rintro e w1 ⟨rfl, rfl⟩
  go_wp2_with fail
  refine (rdead_c a 0 D HD.out w).mono ?_
  rintro e w1 ⟨rfl, rfl⟩
  go_wp2_with fail
  refine (live_c d 0 V HV.out w).mono ?_
  rintro e w1 ⟨rfl, rfl⟩
  go_wp2_with fail
  refine (rlive_c d 0 V HV.out w).mono ?_
  rintro e w1 ⟨rfl, rfl⟩
  go_wp2_with fail
  refine (later_c 0 t (t) HL.out w).mono ?_
  rintro e w1 ⟨rfl, rfl⟩
  go_wp2_with fail
  refine (runs_any w).mono ?_
  rintro e w1 ⟨rfl, rfl⟩
  go_wp2
  go_ret
  exact ⟨rfl, rfl⟩
set_option maxRecDepth 100000 in
set_option maxHeartbeats 1000000 in
theorem tells_big_neg (a d : Int) (n : Int) (t : Int) (hn : 1099511627776 < n) (ht : t < 0) (w : World) : Calls Try.prog 4 #[.int .i64 a, .int .i64 n, .int .i64 d, .int .i64 t] w fun e w' => e = .returned (.bool true) ∧ w = w' := by
  have e1 : it n = 1099511627776 := it_big hn
  have e2 : it t = 0 := it_neg ht
  have HL : Hid (it (it n + it t) = 1099511627776) := by show _ = _; (first | rw [e1, e2] | rw [e1]); exact (it_top (by omega)).trans (by omega)
  obtain ⟨D, hD⟩ : ∃ D, dl a n = D := ⟨_, rfl⟩
  have HD : Hid (dl a n = D) := hD
  obtain ⟨V, hV⟩ : ∃ V, lv d n = V := ⟨_, rfl⟩
  have HV : Hid (lv d n = V) := hV
  clear e1 e2 hD hV
  go_enter Try.func4, Try.ntmps4
  go_wp2_with fail
  refine (dead_c a n D HD.out w).mono ?_
  rintro e w1 ⟨rfl, rfl⟩
  go_wp2_with fail
  refine (rdead_c a n D HD.out w).mono ?_
  rintro e w1 ⟨rfl, rfl⟩
  go_wp2_with fail
  refine (live_c d n V HV.out w).mono ?_
  rintro e w1 ⟨rfl, rfl⟩
  go_wp2_with fail
  refine (rlive_c d n V HV.out w).mono ?_
  rintro e w1 ⟨rfl, rfl⟩
  go_wp2_with fail
  refine (later_c n t (1099511627776) HL.out w).mono ?_
  rintro e w1 ⟨rfl, rfl⟩
  go_wp2_with fail
  refine (runs_any w).mono ?_
  rintro e w1 ⟨rfl, rfl⟩
  go_wp2
  go_ret
  exact ⟨rfl, rfl⟩
set_option maxRecDepth 100000 in
set_option maxHeartbeats 1000000 in
theorem tells_big_zero (a d : Int) (n : Int) (hn : 1099511627776 < n) (w : World) : Calls Try.prog 4 #[.int .i64 a, .int .i64 n, .int .i64 d, .int .i64 0] w fun e w' => e = .returned (.bool true) ∧ w = w' := by
  have e1 : it n = 1099511627776 := it_big hn
  have e2 : it 0 = 0 := it_mid (Int.le_refl _) (by decide)
  have HL : Hid (it (it n + it 0) = 1099511627776) := by show _ = _; (first | rw [e1, e2] | rw [e1]); exact (it_top (by omega)).trans (by omega)
  obtain ⟨D, hD⟩ : ∃ D, dl a n = D := ⟨_, rfl⟩
  have HD : Hid (dl a n = D) := hD
  obtain ⟨V, hV⟩ : ∃ V, lv d n = V := ⟨_, rfl⟩
  have HV : Hid (lv d n = V) := hV
  clear e1 e2 hD hV
  go_enter Try.func4, Try.ntmps4
  go_wp2_with fail
  refine (dead_c a n D HD.out w).mono ?_
  rintro e w1 ⟨rfl, rfl⟩
  go_wp2_with fail
  refine (rdead_c a n D HD.out w).mono ?_
  rintro e w1 ⟨rfl, rfl⟩
  go_wp2_with fail
  refine (live_c d n V HV.out w).mono ?_
  rintro e w1 ⟨rfl, rfl⟩
  go_wp2_with fail
  refine (rlive_c d n V HV.out w).mono ?_
  rintro e w1 ⟨rfl, rfl⟩
  go_wp2_with fail
  refine (later_c n 0 (1099511627776) HL.out w).mono ?_
  rintro e w1 ⟨rfl, rfl⟩
  go_wp2_with fail
  refine (runs_any w).mono ?_
  rintro e w1 ⟨rfl, rfl⟩
  go_wp2
  go_ret
  exact ⟨rfl, rfl⟩
set_option maxRecDepth 100000 in
set_option maxHeartbeats 1000000 in
theorem tells_big_big (a d : Int) (n : Int) (t : Int) (hn : 1099511627776 < n) (ht : 1099511627776 < t) (w : World) : Calls Try.prog 4 #[.int .i64 a, .int .i64 n, .int .i64 d, .int .i64 t] w fun e w' => e = .returned (.bool true) ∧ w = w' := by
  have e1 : it n = 1099511627776 := it_big hn
  have e2 : it t = 1099511627776 := it_big ht
  have HL : Hid (it (it n + it t) = 1099511627776) := by show _ = _; (first | rw [e1, e2] | rw [e1]); exact (it_top (by omega)).trans (by omega)
  obtain ⟨D, hD⟩ : ∃ D, dl a n = D := ⟨_, rfl⟩
  have HD : Hid (dl a n = D) := hD
  obtain ⟨V, hV⟩ : ∃ V, lv d n = V := ⟨_, rfl⟩
  have HV : Hid (lv d n = V) := hV
  clear e1 e2 hD hV
  go_enter Try.func4, Try.ntmps4
  go_wp2_with fail
  refine (dead_c a n D HD.out w).mono ?_
  rintro e w1 ⟨rfl, rfl⟩
  go_wp2_with fail
  refine (rdead_c a n D HD.out w).mono ?_
  rintro e w1 ⟨rfl, rfl⟩
  go_wp2_with fail
  refine (live_c d n V HV.out w).mono ?_
  rintro e w1 ⟨rfl, rfl⟩
  go_wp2_with fail
  refine (rlive_c d n V HV.out w).mono ?_
  rintro e w1 ⟨rfl, rfl⟩
  go_wp2_with fail
  refine (later_c n t (1099511627776) HL.out w).mono ?_
  rintro e w1 ⟨rfl, rfl⟩
  go_wp2_with fail
  refine (runs_any w).mono ?_
  rintro e w1 ⟨rfl, rfl⟩
  go_wp2
  go_ret
  exact ⟨rfl, rfl⟩
set_option maxRecDepth 100000 in
set_option maxHeartbeats 1000000 in
theorem tells_big_mid (a d : Int) (n : Int) (t : Int) (hn : 1099511627776 < n) (ht1 : 0 < t) (ht2 : t ≤ 1099511627776) (w : World) : Calls Try.prog 4 #[.int .i64 a, .int .i64 n, .int .i64 d, .int .i64 t] w fun e w' => e = .returned (.bool true) ∧ w = w' := by
  have e1 : it n = 1099511627776 := it_big hn
  have e2 : it t = t := it_mid (by omega) (by omega)
  have HL : Hid (it (it n + it t) = 1099511627776) := by show _ = _; (first | rw [e1, e2] | rw [e1]); exact (it_top (by omega)).trans (by omega)
  obtain ⟨D, hD⟩ : ∃ D, dl a n = D := ⟨_, rfl⟩
  have HD : Hid (dl a n = D) := hD
  obtain ⟨V, hV⟩ : ∃ V, lv d n = V := ⟨_, rfl⟩
  have HV : Hid (lv d n = V) := hV
  clear e1 e2 hD hV
  go_enter Try.func4, Try.ntmps4
  go_wp2_with fail
  refine (dead_c a n D HD.out w).mono ?_
  rintro e w1 ⟨rfl, rfl⟩
  go_wp2_with fail
  refine (rdead_c a n D HD.out w).mono ?_
  rintro e w1 ⟨rfl, rfl⟩
  go_wp2_with fail
  refine (live_c d n V HV.out w).mono ?_
  rintro e w1 ⟨rfl, rfl⟩
  go_wp2_with fail
  refine (rlive_c d n V HV.out w).mono ?_
  rintro e w1 ⟨rfl, rfl⟩
  go_wp2_with fail
  refine (later_c n t (1099511627776) HL.out w).mono ?_
  rintro e w1 ⟨rfl, rfl⟩
  go_wp2_with fail
  refine (runs_any w).mono ?_
  rintro e w1 ⟨rfl, rfl⟩
  go_wp2
  go_ret
  exact ⟨rfl, rfl⟩
set_option maxRecDepth 100000 in
set_option maxHeartbeats 1000000 in
theorem tells_mid_neg (a d : Int) (n : Int) (t : Int) (hn1 : 0 < n) (hn2 : n ≤ 1099511627776) (ht : t < 0) (w : World) : Calls Try.prog 4 #[.int .i64 a, .int .i64 n, .int .i64 d, .int .i64 t] w fun e w' => e = .returned (.bool true) ∧ w = w' := by
  have e1 : it n = n := it_mid (by omega) (by omega)
  have e2 : it t = 0 := it_neg ht
  have HL : Hid (it (it n + it t) = n) := by show _ = _; (first | rw [e1, e2] | rw [e1]); exact (it_mid (by omega) (by omega)).trans (by omega)
  obtain ⟨D, hD⟩ : ∃ D, dl a n = D := ⟨_, rfl⟩
  have HD : Hid (dl a n = D) := hD
  obtain ⟨V, hV⟩ : ∃ V, lv d n = V := ⟨_, rfl⟩
  have HV : Hid (lv d n = V) := hV
  clear e1 e2 hD hV
  go_enter Try.func4, Try.ntmps4
  go_wp2_with fail
  refine (dead_c a n D HD.out w).mono ?_
  rintro e w1 ⟨rfl, rfl⟩
  go_wp2_with fail
  refine (rdead_c a n D HD.out w).mono ?_
  rintro e w1 ⟨rfl, rfl⟩
  go_wp2_with fail
  refine (live_c d n V HV.out w).mono ?_
  rintro e w1 ⟨rfl, rfl⟩
  go_wp2_with fail
  refine (rlive_c d n V HV.out w).mono ?_
  rintro e w1 ⟨rfl, rfl⟩
  go_wp2_with fail
  refine (later_c n t (n) HL.out w).mono ?_
  rintro e w1 ⟨rfl, rfl⟩
  go_wp2_with fail
  refine (runs_any w).mono ?_
  rintro e w1 ⟨rfl, rfl⟩
  go_wp2
  go_ret
  exact ⟨rfl, rfl⟩
set_option maxRecDepth 100000 in
set_option maxHeartbeats 1000000 in
theorem tells_mid_zero (a d : Int) (n : Int) (hn1 : 0 < n) (hn2 : n ≤ 1099511627776) (w : World) : Calls Try.prog 4 #[.int .i64 a, .int .i64 n, .int .i64 d, .int .i64 0] w fun e w' => e = .returned (.bool true) ∧ w = w' := by
  have e1 : it n = n := it_mid (by omega) (by omega)
  have e2 : it 0 = 0 := it_mid (Int.le_refl _) (by decide)
  have HL : Hid (it (it n + it 0) = n) := by show _ = _; (first | rw [e1, e2] | rw [e1]); exact (it_mid (by omega) (by omega)).trans (by omega)
  obtain ⟨D, hD⟩ : ∃ D, dl a n = D := ⟨_, rfl⟩
  have HD : Hid (dl a n = D) := hD
  obtain ⟨V, hV⟩ : ∃ V, lv d n = V := ⟨_, rfl⟩
  have HV : Hid (lv d n = V) := hV
  clear e1 e2 hD hV
  go_enter Try.func4, Try.ntmps4
  go_wp2_with fail
  refine (dead_c a n D HD.out w).mono ?_
  rintro e w1 ⟨rfl, rfl⟩
  go_wp2_with fail
  refine (rdead_c a n D HD.out w).mono ?_
  rintro e w1 ⟨rfl, rfl⟩
  go_wp2_with fail
  refine (live_c d n V HV.out w).mono ?_
  rintro e w1 ⟨rfl, rfl⟩
  go_wp2_with fail
  refine (rlive_c d n V HV.out w).mono ?_
  rintro e w1 ⟨rfl, rfl⟩
  go_wp2_with fail
  refine (later_c n 0 (n) HL.out w).mono ?_
  rintro e w1 ⟨rfl, rfl⟩
  go_wp2_with fail
  refine (runs_any w).mono ?_
  rintro e w1 ⟨rfl, rfl⟩
  go_wp2
  go_ret
  exact ⟨rfl, rfl⟩
set_option maxRecDepth 100000 in
set_option maxHeartbeats 1000000 in
theorem tells_mid_big (a d : Int) (n : Int) (t : Int) (hn1 : 0 < n) (hn2 : n ≤ 1099511627776) (ht : 1099511627776 < t) (w : World) : Calls Try.prog 4 #[.int .i64 a, .int .i64 n, .int .i64 d, .int .i64 t] w fun e w' => e = .returned (.bool true) ∧ w = w' := by
  have e1 : it n = n := it_mid (by omega) (by omega)
  have e2 : it t = 1099511627776 := it_big ht
  have HL : Hid (it (it n + it t) = 1099511627776) := by show _ = _; (first | rw [e1, e2] | rw [e1]); exact (it_top (by omega)).trans (by omega)
  obtain ⟨D, hD⟩ : ∃ D, dl a n = D := ⟨_, rfl⟩
  have HD : Hid (dl a n = D) := hD
  obtain ⟨V, hV⟩ : ∃ V, lv d n = V := ⟨_, rfl⟩
  have HV : Hid (lv d n = V) := hV
  clear e1 e2 hD hV
  go_enter Try.func4, Try.ntmps4
  go_wp2_with fail
  refine (dead_c a n D HD.out w).mono ?_
  rintro e w1 ⟨rfl, rfl⟩
  go_wp2_with fail
  refine (rdead_c a n D HD.out w).mono ?_
  rintro e w1 ⟨rfl, rfl⟩
  go_wp2_with fail
  refine (live_c d n V HV.out w).mono ?_
  rintro e w1 ⟨rfl, rfl⟩
  go_wp2_with fail
  refine (rlive_c d n V HV.out w).mono ?_
  rintro e w1 ⟨rfl, rfl⟩
  go_wp2_with fail
  refine (later_c n t (1099511627776) HL.out w).mono ?_
  rintro e w1 ⟨rfl, rfl⟩
  go_wp2_with fail
  refine (runs_any w).mono ?_
  rintro e w1 ⟨rfl, rfl⟩
  go_wp2
  go_ret
  exact ⟨rfl, rfl⟩
set_option maxRecDepth 100000 in
set_option maxHeartbeats 1000000 in
theorem tells_mid_mid_gt (a d : Int) (n : Int) (t : Int) (hn1 : 0 < n) (hn2 : n ≤ 1099511627776) (ht1 : 0 < t) (ht2 : t ≤ 1099511627776) (hs : 1099511627776 < n + t) (w : World) : Calls Try.prog 4 #[.int .i64 a, .int .i64 n, .int .i64 d, .int .i64 t] w fun e w' => e = .returned (.bool true) ∧ w = w' := by
  have e1 : it n = n := it_mid (by omega) (by omega)
  have e2 : it t = t := it_mid (by omega) (by omega)
  have HL : Hid (it (it n + it t) = 1099511627776) := by show _ = _; (first | rw [e1, e2] | rw [e1]); exact (it_top (by omega)).trans (by omega)
  obtain ⟨D, hD⟩ : ∃ D, dl a n = D := ⟨_, rfl⟩
  have HD : Hid (dl a n = D) := hD
  obtain ⟨V, hV⟩ : ∃ V, lv d n = V := ⟨_, rfl⟩
  have HV : Hid (lv d n = V) := hV
  clear e1 e2 hD hV
  go_enter Try.func4, Try.ntmps4
  go_wp2_with fail
  refine (dead_c a n D HD.out w).mono ?_
  rintro e w1 ⟨rfl, rfl⟩
  go_wp2_with fail
  refine (rdead_c a n D HD.out w).mono ?_
  rintro e w1 ⟨rfl, rfl⟩
  go_wp2_with fail
  refine (live_c d n V HV.out w).mono ?_
  rintro e w1 ⟨rfl, rfl⟩
  go_wp2_with fail
  refine (rlive_c d n V HV.out w).mono ?_
  rintro e w1 ⟨rfl, rfl⟩
  go_wp2_with fail
  refine (later_c n t (1099511627776) HL.out w).mono ?_
  rintro e w1 ⟨rfl, rfl⟩
  go_wp2_with fail
  refine (runs_any w).mono ?_
  rintro e w1 ⟨rfl, rfl⟩
  go_wp2
  go_ret
  exact ⟨rfl, rfl⟩
set_option maxRecDepth 100000 in
set_option maxHeartbeats 1000000 in
theorem tells_mid_mid_le (a d : Int) (n : Int) (t : Int) (hn1 : 0 < n) (hn2 : n ≤ 1099511627776) (ht1 : 0 < t) (ht2 : t ≤ 1099511627776) (hs : n + t ≤ 1099511627776) (w : World) : Calls Try.prog 4 #[.int .i64 a, .int .i64 n, .int .i64 d, .int .i64 t] w fun e w' => e = .returned (.bool true) ∧ w = w' := by
  have e1 : it n = n := it_mid (by omega) (by omega)
  have e2 : it t = t := it_mid (by omega) (by omega)
  have HL : Hid (it (it n + it t) = n + t) := by show _ = _; (first | rw [e1, e2] | rw [e1]); exact (it_mid (by omega) (by omega)).trans (by omega)
  obtain ⟨D, hD⟩ : ∃ D, dl a n = D := ⟨_, rfl⟩
  have HD : Hid (dl a n = D) := hD
  obtain ⟨V, hV⟩ : ∃ V, lv d n = V := ⟨_, rfl⟩
  have HV : Hid (lv d n = V) := hV
  clear e1 e2 hD hV
  go_enter Try.func4, Try.ntmps4
  go_wp2_with fail
  refine (dead_c a n D HD.out w).mono ?_
  rintro e w1 ⟨rfl, rfl⟩
  go_wp2_with fail
  refine (rdead_c a n D HD.out w).mono ?_
  rintro e w1 ⟨rfl, rfl⟩
  go_wp2_with fail
  refine (live_c d n V HV.out w).mono ?_
  rintro e w1 ⟨rfl, rfl⟩
  go_wp2_with fail
  refine (rlive_c d n V HV.out w).mono ?_
  rintro e w1 ⟨rfl, rfl⟩
  go_wp2_with fail
  refine (later_c n t (n + t) HL.out w).mono ?_
  rintro e w1 ⟨rfl, rfl⟩
  go_wp2_with fail
  refine (runs_any w).mono ?_
  rintro e w1 ⟨rfl, rfl⟩
  go_wp2
  go_ret
  exact ⟨rfl, rfl⟩
theorem tells_walk (a n d t : Int) (w : World) : Calls Try.prog 4 #[.int .i64 a, .int .i64 n, .int .i64 d, .int .i64 t] w fun e w' => e = .returned (.bool true) ∧ w = w' := by
  have part : ∀ v : Int, v < 0 ∨ v = 0 ∨ 1099511627776 < v ∨ (0 < v ∧ v ≤ 1099511627776) := fun v => by omega
  rcases part n with h | rfl | h | ⟨h, h'⟩ <;> rcases part t with g | rfl | g | ⟨g, g'⟩
  · exact tells_neg_neg a d n t h g w
  · exact tells_neg_zero a d n h w
  · exact tells_neg_big a d n t h g w
  · exact tells_neg_mid a d n t h g g' w
  · exact tells_zero_neg a d t g w
  · exact tells_zero_zero a d w
  · exact tells_zero_big a d t g w
  · exact tells_zero_mid a d t g g' w
  · exact tells_big_neg a d n t h g w
  · exact tells_big_zero a d n h w
  · exact tells_big_big a d n t h g w
  · exact tells_big_mid a d n t h g g' w
  · exact tells_mid_neg a d n t h h' g w
  · exact tells_mid_zero a d n h h' w
  · exact tells_mid_big a d n t h h' g w
  · by_cases k : 1099511627776 < n + t
    · exact tells_mid_mid_gt a d n t h h' g g' k w
    · exact tells_mid_mid_le a d n t h h' g g' (by omega) w
end Go.Proofs.Ytgfibddogcnilaa
