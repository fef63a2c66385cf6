/-
  WHENOVER walked.
-/
import Derived.Test.YtgfibddogcnilaaTells
namespace Go.Proofs.Ytgfibddogcnilaa
open Go.RowKit
set_option linter.unusedVariables false

set_option maxRecDepth 100000 in
set_option maxHeartbeats 1000000 in
theorem over_lt_zero (e0 n0 a b n k x y : Int) (Hn : Hid (wi n0 1 1073741824 = n)) (Hk : Hid (wi e0 (-9) 2592000 = k)) (Hx : Hid (wi a 0 4194304 = x)) (Hy : Hid (wi b 0 4194304 = y)) (n1 : 1 ≤ n) (n2 : n ≤ 1073741824) (k1 : -9 ≤ k) (k2 : k ≤ 2592000) (x1 : 0 ≤ x) (x2 : x ≤ 4194304) (y1 : 0 ≤ y) (y2 : y ≤ 4194304) (ho : x < y) (he : k = 0) (w : World) : Calls Try.prog 5 #[.int .i64 e0, .int .i64 n0, .int .i64 a, .int .i64 b] w fun e w' => e = .returned (.bool true) ∧ w = w' := by
  subst he
  have HD : Hid (dl 0 n = 0) := by show _ = _; unfold dl; rw [if_pos rfl]
  have HP : Hid (lv (0) (n + x) = true) := by show _ = _; unfold lv; simp; try omega
  have HQ : Hid (lv (0) (n + y) = true) := by show _ = _; unfold lv; simp; try omega
  go_enter Try.func5, Try.ntmps5
  go_wp2_with fail
  refine (within_any n0 1 1073741824 (by omega) (by omega) (by omega) w).mono ?_
  rintro e w1 ⟨rfl, rfl⟩
  rw [Hn.out]
  go_wp2_with fail
  refine (within_any e0 (-9) 2592000 (by omega) (by omega) (by omega) w).mono ?_
  rintro e w1 ⟨rfl, rfl⟩
  rw [Hk.out]
  go_wp2_with fail
  refine (dead_c 0 n (0) HD.out w).mono ?_
  rintro e w1 ⟨rfl, rfl⟩
  go_wp2_with fail
  refine (within_any a 0 4194304 (by omega) (by omega) (by omega) w).mono ?_
  rintro e w1 ⟨rfl, rfl⟩
  rw [Hx.out]
  go_wp2_with fail
  refine (within_any b 0 4194304 (by omega) (by omega) (by omega) w).mono ?_
  rintro e w1 ⟨rfl, rfl⟩
  rw [Hy.out]
  go_wp2_with fail
  refine (live_c (0) (n + x) true HP.out w).mono ?_
  rintro e w1 ⟨rfl, rfl⟩
  go_wp2_with fail
  refine (live_c (0) (n + y) true HQ.out w).mono ?_
  rintro e w1 ⟨rfl, rfl⟩
  go_wp2_with fail
  refine (runs_any w).mono ?_
  rintro e w1 ⟨rfl, rfl⟩
  go_wp2
  go_ret
  exact ⟨rfl, rfl⟩
set_option maxRecDepth 100000 in
set_option maxHeartbeats 1000000 in
theorem over_lt_neg (e0 n0 a b n k x y : Int) (Hn : Hid (wi n0 1 1073741824 = n)) (Hk : Hid (wi e0 (-9) 2592000 = k)) (Hx : Hid (wi a 0 4194304 = x)) (Hy : Hid (wi b 0 4194304 = y)) (n1 : 1 ≤ n) (n2 : n ≤ 1073741824) (k1 : -9 ≤ k) (k2 : k ≤ 2592000) (x1 : 0 ≤ x) (x2 : x ≤ 4194304) (y1 : 0 ≤ y) (y2 : y ≤ 4194304) (ho : x < y) (he : k < 0) (w : World) : Calls Try.prog 5 #[.int .i64 e0, .int .i64 n0, .int .i64 a, .int .i64 b] w fun e w' => e = .returned (.bool true) ∧ w = w' := by
  have HD : Hid (dl k n = -1) := by show _ = _; unfold dl; rw [if_neg (by omega), if_pos he]
  have HP : Hid (lv (-1) (n + x) = false) := by show _ = _; unfold lv; simp; try omega
  have HQ : Hid (lv (-1) (n + y) = false) := by show _ = _; unfold lv; simp; try omega
  have hk : (k == 0) = false := by simp; omega
  go_enter Try.func5, Try.ntmps5
  go_wp2_with fail
  refine (within_any n0 1 1073741824 (by omega) (by omega) (by omega) w).mono ?_
  rintro e w1 ⟨rfl, rfl⟩
  rw [Hn.out]
  go_wp2_with fail
  refine (within_any e0 (-9) 2592000 (by omega) (by omega) (by omega) w).mono ?_
  rintro e w1 ⟨rfl, rfl⟩
  rw [Hk.out]
  go_wp2_with fail
  refine (dead_c k n (-1) HD.out w).mono ?_
  rintro e w1 ⟨rfl, rfl⟩
  go_wp2_with fail
  refine (within_any a 0 4194304 (by omega) (by omega) (by omega) w).mono ?_
  rintro e w1 ⟨rfl, rfl⟩
  rw [Hx.out]
  go_wp2_with fail
  refine (within_any b 0 4194304 (by omega) (by omega) (by omega) w).mono ?_
  rintro e w1 ⟨rfl, rfl⟩
  rw [Hy.out]
  go_wp2_with fail
  refine (live_c (-1) (n + x) false HP.out w).mono ?_
  rintro e w1 ⟨rfl, rfl⟩
  go_wp2_with fail
  refine (live_c (-1) (n + y) false HQ.out w).mono ?_
  rintro e w1 ⟨rfl, rfl⟩
  go_wp2_with fail
  refine (runs_any w).mono ?_
  rintro e w1 ⟨rfl, rfl⟩
  go_wp2
  go_ret
  exact ⟨rfl, rfl⟩
set_option maxRecDepth 100000 in
set_option maxHeartbeats 1000000 in
theorem over_lt_pos_tt (e0 n0 a b n k x y : Int) (Hn : Hid (wi n0 1 1073741824 = n)) (Hk : Hid (wi e0 (-9) 2592000 = k)) (Hx : Hid (wi a 0 4194304 = x)) (Hy : Hid (wi b 0 4194304 = y)) (n1 : 1 ≤ n) (n2 : n ≤ 1073741824) (k1 : -9 ≤ k) (k2 : k ≤ 2592000) (x1 : 0 ≤ x) (x2 : x ≤ 4194304) (y1 : 0 ≤ y) (y2 : y ≤ 4194304) (ho : x < y) (he : 0 < k) (h1 : x < k) (h2 : y < k) (w : World) : Calls Try.prog 5 #[.int .i64 e0, .int .i64 n0, .int .i64 a, .int .i64 b] w fun e w' => e = .returned (.bool true) ∧ w = w' := by
  have HD : Hid (dl k n = n + k) := by show _ = _; unfold dl; rw [if_neg (by omega), if_neg (by omega), if_pos k2, it_mid (by omega) (by omega)]
  have HP : Hid (lv (n + k) (n + x) = true) := by show _ = _; unfold lv; simp; try omega
  have HQ : Hid (lv (n + k) (n + y) = true) := by show _ = _; unfold lv; simp; try omega
  have hk : (k == 0) = false := by simp; omega
  go_enter Try.func5, Try.ntmps5
  go_wp2_with fail
  refine (within_any n0 1 1073741824 (by omega) (by omega) (by omega) w).mono ?_
  rintro e w1 ⟨rfl, rfl⟩
  rw [Hn.out]
  go_wp2_with fail
  refine (within_any e0 (-9) 2592000 (by omega) (by omega) (by omega) w).mono ?_
  rintro e w1 ⟨rfl, rfl⟩
  rw [Hk.out]
  go_wp2_with fail
  refine (dead_c k n (n + k) HD.out w).mono ?_
  rintro e w1 ⟨rfl, rfl⟩
  go_wp2_with fail
  refine (within_any a 0 4194304 (by omega) (by omega) (by omega) w).mono ?_
  rintro e w1 ⟨rfl, rfl⟩
  rw [Hx.out]
  go_wp2_with fail
  refine (within_any b 0 4194304 (by omega) (by omega) (by omega) w).mono ?_
  rintro e w1 ⟨rfl, rfl⟩
  rw [Hy.out]
  go_wp2_with fail
  refine (live_c (n + k) (n + x) true HP.out w).mono ?_
  rintro e w1 ⟨rfl, rfl⟩
  go_wp2_with fail
  refine (live_c (n + k) (n + y) true HQ.out w).mono ?_
  rintro e w1 ⟨rfl, rfl⟩
  go_wp2_with fail
  refine (runs_any w).mono ?_
  rintro e w1 ⟨rfl, rfl⟩
  go_wp2
  go_ret
  exact ⟨rfl, rfl⟩
set_option maxRecDepth 100000 in
set_option maxHeartbeats 1000000 in
theorem over_lt_pos_tf (e0 n0 a b n k x y : Int) (Hn : Hid (wi n0 1 1073741824 = n)) (Hk : Hid (wi e0 (-9) 2592000 = k)) (Hx : Hid (wi a 0 4194304 = x)) (Hy : Hid (wi b 0 4194304 = y)) (n1 : 1 ≤ n) (n2 : n ≤ 1073741824) (k1 : -9 ≤ k) (k2 : k ≤ 2592000) (x1 : 0 ≤ x) (x2 : x ≤ 4194304) (y1 : 0 ≤ y) (y2 : y ≤ 4194304) (ho : x < y) (he : 0 < k) (h1 : x < k) (h2 : k ≤ y) (w : World) : Calls Try.prog 5 #[.int .i64 e0, .int .i64 n0, .int .i64 a, .int .i64 b] w fun e w' => e = .returned (.bool true) ∧ w = w' := by
  have HD : Hid (dl k n = n + k) := by show _ = _; unfold dl; rw [if_neg (by omega), if_neg (by omega), if_pos k2, it_mid (by omega) (by omega)]
  have HP : Hid (lv (n + k) (n + x) = true) := by show _ = _; unfold lv; simp; try omega
  have HQ : Hid (lv (n + k) (n + y) = false) := by show _ = _; unfold lv; simp; try omega
  have hk : (k == 0) = false := by simp; omega
  go_enter Try.func5, Try.ntmps5
  go_wp2_with fail
  refine (within_any n0 1 1073741824 (by omega) (by omega) (by omega) w).mono ?_
  rintro e w1 ⟨rfl, rfl⟩
  rw [Hn.out]
  go_wp2_with fail
  refine (within_any e0 (-9) 2592000 (by omega) (by omega) (by omega) w).mono ?_
  rintro e w1 ⟨rfl, rfl⟩
  rw [Hk.out]
  go_wp2_with fail
  refine (dead_c k n (n + k) HD.out w).mono ?_
  rintro e w1 ⟨rfl, rfl⟩
  go_wp2_with fail
  refine (within_any a 0 4194304 (by omega) (by omega) (by omega) w).mono ?_
  rintro e w1 ⟨rfl, rfl⟩
  rw [Hx.out]
  go_wp2_with fail
  refine (within_any b 0 4194304 (by omega) (by omega) (by omega) w).mono ?_
  rintro e w1 ⟨rfl, rfl⟩
  rw [Hy.out]
  go_wp2_with fail
  refine (live_c (n + k) (n + x) true HP.out w).mono ?_
  rintro e w1 ⟨rfl, rfl⟩
  go_wp2_with fail
  refine (live_c (n + k) (n + y) false HQ.out w).mono ?_
  rintro e w1 ⟨rfl, rfl⟩
  go_wp2_with fail
  refine (runs_any w).mono ?_
  rintro e w1 ⟨rfl, rfl⟩
  go_wp2
  go_ret
  exact ⟨rfl, rfl⟩
set_option maxRecDepth 100000 in
set_option maxHeartbeats 1000000 in
theorem over_lt_pos_ff (e0 n0 a b n k x y : Int) (Hn : Hid (wi n0 1 1073741824 = n)) (Hk : Hid (wi e0 (-9) 2592000 = k)) (Hx : Hid (wi a 0 4194304 = x)) (Hy : Hid (wi b 0 4194304 = y)) (n1 : 1 ≤ n) (n2 : n ≤ 1073741824) (k1 : -9 ≤ k) (k2 : k ≤ 2592000) (x1 : 0 ≤ x) (x2 : x ≤ 4194304) (y1 : 0 ≤ y) (y2 : y ≤ 4194304) (ho : x < y) (he : 0 < k) (h1 : k ≤ x) (h2 : k ≤ y) (w : World) : Calls Try.prog 5 #[.int .i64 e0, .int .i64 n0, .int .i64 a, .int .i64 b] w fun e w' => e = .returned (.bool true) ∧ w = w' := by
  have HD : Hid (dl k n = n + k) := by show _ = _; unfold dl; rw [if_neg (by omega), if_neg (by omega), if_pos k2, it_mid (by omega) (by omega)]
  have HP : Hid (lv (n + k) (n + x) = false) := by show _ = _; unfold lv; simp; try omega
  have HQ : Hid (lv (n + k) (n + y) = false) := by show _ = _; unfold lv; simp; try omega
  have hf : decide (x < k) = false := by simp; omega
  have hk : (k == 0) = false := by simp; omega
  go_enter Try.func5, Try.ntmps5
  go_wp2_with fail
  refine (within_any n0 1 1073741824 (by omega) (by omega) (by omega) w).mono ?_
  rintro e w1 ⟨rfl, rfl⟩
  rw [Hn.out]
  go_wp2_with fail
  refine (within_any e0 (-9) 2592000 (by omega) (by omega) (by omega) w).mono ?_
  rintro e w1 ⟨rfl, rfl⟩
  rw [Hk.out]
  go_wp2_with fail
  refine (dead_c k n (n + k) HD.out w).mono ?_
  rintro e w1 ⟨rfl, rfl⟩
  go_wp2_with fail
  refine (within_any a 0 4194304 (by omega) (by omega) (by omega) w).mono ?_
  rintro e w1 ⟨rfl, rfl⟩
  rw [Hx.out]
  go_wp2_with fail
  refine (within_any b 0 4194304 (by omega) (by omega) (by omega) w).mono ?_
  rintro e w1 ⟨rfl, rfl⟩
  rw [Hy.out]
  go_wp2_with fail
  refine (live_c (n + k) (n + x) false HP.out w).mono ?_
  rintro e w1 ⟨rfl, rfl⟩
  go_wp2_with fail
  refine (live_c (n + k) (n + y) false HQ.out w).mono ?_
  rintro e w1 ⟨rfl, rfl⟩
  go_wp2_with fail
  refine (runs_any w).mono ?_
  rintro e w1 ⟨rfl, rfl⟩
  go_wp2
  go_ret
  exact ⟨rfl, rfl⟩
set_option maxRecDepth 100000 in
set_option maxHeartbeats 1000000 in
theorem over_eq_zero (e0 n0 a b n k x y : Int) (Hn : Hid (wi n0 1 1073741824 = n)) (Hk : Hid (wi e0 (-9) 2592000 = k)) (Hx : Hid (wi a 0 4194304 = x)) (Hy : Hid (wi b 0 4194304 = y)) (n1 : 1 ≤ n) (n2 : n ≤ 1073741824) (k1 : -9 ≤ k) (k2 : k ≤ 2592000) (x1 : 0 ≤ x) (x2 : x ≤ 4194304) (y1 : 0 ≤ y) (y2 : y ≤ 4194304) (ho : x = y) (he : k = 0) (w : World) : Calls Try.prog 5 #[.int .i64 e0, .int .i64 n0, .int .i64 a, .int .i64 b] w fun e w' => e = .returned (.bool true) ∧ w = w' := by
  subst he
  subst ho
  have HD : Hid (dl 0 n = 0) := by show _ = _; unfold dl; rw [if_pos rfl]
  have HP : Hid (lv (0) (n + x) = true) := by show _ = _; unfold lv; simp; try omega
  have HQ : Hid (lv (0) (n + x) = true) := by show _ = _; unfold lv; simp; try omega
  go_enter Try.func5, Try.ntmps5
  go_wp2_with fail
  refine (within_any n0 1 1073741824 (by omega) (by omega) (by omega) w).mono ?_
  rintro e w1 ⟨rfl, rfl⟩
  rw [Hn.out]
  go_wp2_with fail
  refine (within_any e0 (-9) 2592000 (by omega) (by omega) (by omega) w).mono ?_
  rintro e w1 ⟨rfl, rfl⟩
  rw [Hk.out]
  go_wp2_with fail
  refine (dead_c 0 n (0) HD.out w).mono ?_
  rintro e w1 ⟨rfl, rfl⟩
  go_wp2_with fail
  refine (within_any a 0 4194304 (by omega) (by omega) (by omega) w).mono ?_
  rintro e w1 ⟨rfl, rfl⟩
  rw [Hx.out]
  go_wp2_with fail
  refine (within_any b 0 4194304 (by omega) (by omega) (by omega) w).mono ?_
  rintro e w1 ⟨rfl, rfl⟩
  rw [Hy.out]
  go_wp2_with fail
  refine (live_c (0) (n + x) true HP.out w).mono ?_
  rintro e w1 ⟨rfl, rfl⟩
  go_wp2_with fail
  refine (live_c (0) (n + x) true HQ.out w).mono ?_
  rintro e w1 ⟨rfl, rfl⟩
  go_wp2_with fail
  refine (runs_any w).mono ?_
  rintro e w1 ⟨rfl, rfl⟩
  go_wp2
  go_ret
  exact ⟨rfl, rfl⟩
set_option maxRecDepth 100000 in
set_option maxHeartbeats 1000000 in
theorem over_eq_neg (e0 n0 a b n k x y : Int) (Hn : Hid (wi n0 1 1073741824 = n)) (Hk : Hid (wi e0 (-9) 2592000 = k)) (Hx : Hid (wi a 0 4194304 = x)) (Hy : Hid (wi b 0 4194304 = y)) (n1 : 1 ≤ n) (n2 : n ≤ 1073741824) (k1 : -9 ≤ k) (k2 : k ≤ 2592000) (x1 : 0 ≤ x) (x2 : x ≤ 4194304) (y1 : 0 ≤ y) (y2 : y ≤ 4194304) (ho : x = y) (he : k < 0) (w : World) : Calls Try.prog 5 #[.int .i64 e0, .int .i64 n0, .int .i64 a, .int .i64 b] w fun e w' => e = .returned (.bool true) ∧ w = w' := by
  subst ho
  have HD : Hid (dl k n = -1) := by show _ = _; unfold dl; rw [if_neg (by omega), if_pos he]
  have HP : Hid (lv (-1) (n + x) = false) := by show _ = _; unfold lv; simp; try omega
  have HQ : Hid (lv (-1) (n + x) = false) := by show _ = _; unfold lv; simp; try omega
  have hk : (k == 0) = false := by simp; omega
  go_enter Try.func5, Try.ntmps5
  go_wp2_with fail
  refine (within_any n0 1 1073741824 (by omega) (by omega) (by omega) w).mono ?_
  rintro e w1 ⟨rfl, rfl⟩
  rw [Hn.out]
  go_wp2_with fail
  refine (within_any e0 (-9) 2592000 (by omega) (by omega) (by omega) w).mono ?_
  rintro e w1 ⟨rfl, rfl⟩
  rw [Hk.out]
  go_wp2_with fail
  refine (dead_c k n (-1) HD.out w).mono ?_
  rintro e w1 ⟨rfl, rfl⟩
  go_wp2_with fail
  refine (within_any a 0 4194304 (by omega) (by omega) (by omega) w).mono ?_
  rintro e w1 ⟨rfl, rfl⟩
  rw [Hx.out]
  go_wp2_with fail
  refine (within_any b 0 4194304 (by omega) (by omega) (by omega) w).mono ?_
  rintro e w1 ⟨rfl, rfl⟩
  rw [Hy.out]
  go_wp2_with fail
  refine (live_c (-1) (n + x) false HP.out w).mono ?_
  rintro e w1 ⟨rfl, rfl⟩
  go_wp2_with fail
  refine (live_c (-1) (n + x) false HQ.out w).mono ?_
  rintro e w1 ⟨rfl, rfl⟩
  go_wp2_with fail
  refine (runs_any w).mono ?_
  rintro e w1 ⟨rfl, rfl⟩
  go_wp2
  go_ret
  exact ⟨rfl, rfl⟩
set_option maxRecDepth 100000 in
set_option maxHeartbeats 1000000 in
theorem over_eq_pos_tt (e0 n0 a b n k x y : Int) (Hn : Hid (wi n0 1 1073741824 = n)) (Hk : Hid (wi e0 (-9) 2592000 = k)) (Hx : Hid (wi a 0 4194304 = x)) (Hy : Hid (wi b 0 4194304 = y)) (n1 : 1 ≤ n) (n2 : n ≤ 1073741824) (k1 : -9 ≤ k) (k2 : k ≤ 2592000) (x1 : 0 ≤ x) (x2 : x ≤ 4194304) (y1 : 0 ≤ y) (y2 : y ≤ 4194304) (ho : x = y) (he : 0 < k) (h1 : x < k) (w : World) : Calls Try.prog 5 #[.int .i64 e0, .int .i64 n0, .int .i64 a, .int .i64 b] w fun e w' => e = .returned (.bool true) ∧ w = w' := by
  subst ho
  have HD : Hid (dl k n = n + k) := by show _ = _; unfold dl; rw [if_neg (by omega), if_neg (by omega), if_pos k2, it_mid (by omega) (by omega)]
  have HP : Hid (lv (n + k) (n + x) = true) := by show _ = _; unfold lv; simp; try omega
  have HQ : Hid (lv (n + k) (n + x) = true) := by show _ = _; unfold lv; simp; try omega
  have hk : (k == 0) = false := by simp; omega
  go_enter Try.func5, Try.ntmps5
  go_wp2_with fail
  refine (within_any n0 1 1073741824 (by omega) (by omega) (by omega) w).mono ?_
  rintro e w1 ⟨rfl, rfl⟩
  rw [Hn.out]
  go_wp2_with fail
  refine (within_any e0 (-9) 2592000 (by omega) (by omega) (by omega) w).mono ?_
  rintro e w1 ⟨rfl, rfl⟩
  rw [Hk.out]
  go_wp2_with fail
  refine (dead_c k n (n + k) HD.out w).mono ?_
  rintro e w1 ⟨rfl, rfl⟩
  go_wp2_with fail
  refine (within_any a 0 4194304 (by omega) (by omega) (by omega) w).mono ?_
  rintro e w1 ⟨rfl, rfl⟩
  rw [Hx.out]
  go_wp2_with fail
  refine (within_any b 0 4194304 (by omega) (by omega) (by omega) w).mono ?_
  rintro e w1 ⟨rfl, rfl⟩
  rw [Hy.out]
  go_wp2_with fail
  refine (live_c (n + k) (n + x) true HP.out w).mono ?_
  rintro e w1 ⟨rfl, rfl⟩
  go_wp2_with fail
  refine (live_c (n + k) (n + x) true HQ.out w).mono ?_
  rintro e w1 ⟨rfl, rfl⟩
  go_wp2_with fail
  refine (runs_any w).mono ?_
  rintro e w1 ⟨rfl, rfl⟩
  go_wp2
  go_ret
  exact ⟨rfl, rfl⟩
set_option maxRecDepth 100000 in
set_option maxHeartbeats 1000000 in
theorem over_eq_pos_ff (e0 n0 a b n k x y : Int) (Hn : Hid (wi n0 1 1073741824 = n)) (Hk : Hid (wi e0 (-9) 2592000 = k)) (Hx : Hid (wi a 0 4194304 = x)) (Hy : Hid (wi b 0 4194304 = y)) (n1 : 1 ≤ n) (n2 : n ≤ 1073741824) (k1 : -9 ≤ k) (k2 : k ≤ 2592000) (x1 : 0 ≤ x) (x2 : x ≤ 4194304) (y1 : 0 ≤ y) (y2 : y ≤ 4194304) (ho : x = y) (he : 0 < k) (h1 : k ≤ x) (w : World) : Calls Try.prog 5 #[.int .i64 e0, .int .i64 n0, .int .i64 a, .int .i64 b] w fun e w' => e = .returned (.bool true) ∧ w = w' := by
  subst ho
  have HD : Hid (dl k n = n + k) := by show _ = _; unfold dl; rw [if_neg (by omega), if_neg (by omega), if_pos k2, it_mid (by omega) (by omega)]
  have HP : Hid (lv (n + k) (n + x) = false) := by show _ = _; unfold lv; simp; try omega
  have HQ : Hid (lv (n + k) (n + x) = false) := by show _ = _; unfold lv; simp; try omega
  have hf : decide (x < k) = false := by simp; omega
  have hk : (k == 0) = false := by simp; omega
  go_enter Try.func5, Try.ntmps5
  go_wp2_with fail
  refine (within_any n0 1 1073741824 (by omega) (by omega) (by omega) w).mono ?_
  rintro e w1 ⟨rfl, rfl⟩
  rw [Hn.out]
  go_wp2_with fail
  refine (within_any e0 (-9) 2592000 (by omega) (by omega) (by omega) w).mono ?_
  rintro e w1 ⟨rfl, rfl⟩
  rw [Hk.out]
  go_wp2_with fail
  refine (dead_c k n (n + k) HD.out w).mono ?_
  rintro e w1 ⟨rfl, rfl⟩
  go_wp2_with fail
  refine (within_any a 0 4194304 (by omega) (by omega) (by omega) w).mono ?_
  rintro e w1 ⟨rfl, rfl⟩
  rw [Hx.out]
  go_wp2_with fail
  refine (within_any b 0 4194304 (by omega) (by omega) (by omega) w).mono ?_
  rintro e w1 ⟨rfl, rfl⟩
  rw [Hy.out]
  go_wp2_with fail
  refine (live_c (n + k) (n + x) false HP.out w).mono ?_
  rintro e w1 ⟨rfl, rfl⟩
  go_wp2_with fail
  refine (live_c (n + k) (n + x) false HQ.out w).mono ?_
  rintro e w1 ⟨rfl, rfl⟩
  go_wp2_with fail
  refine (runs_any w).mono ?_
  rintro e w1 ⟨rfl, rfl⟩
  go_wp2
  go_ret
  exact ⟨rfl, rfl⟩
set_option maxRecDepth 100000 in
set_option maxHeartbeats 1000000 in
theorem over_gt_zero (e0 n0 a b n k x y : Int) (Hn : Hid (wi n0 1 1073741824 = n)) (Hk : Hid (wi e0 (-9) 2592000 = k)) (Hx : Hid (wi a 0 4194304 = x)) (Hy : Hid (wi b 0 4194304 = y)) (n1 : 1 ≤ n) (n2 : n ≤ 1073741824) (k1 : -9 ≤ k) (k2 : k ≤ 2592000) (x1 : 0 ≤ x) (x2 : x ≤ 4194304) (y1 : 0 ≤ y) (y2 : y ≤ 4194304) (ho : y < x) (he : k = 0) (w : World) : Calls Try.prog 5 #[.int .i64 e0, .int .i64 n0, .int .i64 a, .int .i64 b] w fun e w' => e = .returned (.bool true) ∧ w = w' := by
  subst he
  have HD : Hid (dl 0 n = 0) := by show _ = _; unfold dl; rw [if_pos rfl]
  have HP : Hid (lv (0) (n + y) = true) := by show _ = _; unfold lv; simp; try omega
  have HQ : Hid (lv (0) (n + x) = true) := by show _ = _; unfold lv; simp; try omega
  go_enter Try.func5, Try.ntmps5
  go_wp2_with fail
  refine (within_any n0 1 1073741824 (by omega) (by omega) (by omega) w).mono ?_
  rintro e w1 ⟨rfl, rfl⟩
  rw [Hn.out]
  go_wp2_with fail
  refine (within_any e0 (-9) 2592000 (by omega) (by omega) (by omega) w).mono ?_
  rintro e w1 ⟨rfl, rfl⟩
  rw [Hk.out]
  go_wp2_with fail
  refine (dead_c 0 n (0) HD.out w).mono ?_
  rintro e w1 ⟨rfl, rfl⟩
  go_wp2_with fail
  refine (within_any a 0 4194304 (by omega) (by omega) (by omega) w).mono ?_
  rintro e w1 ⟨rfl, rfl⟩
  rw [Hx.out]
  go_wp2_with fail
  refine (within_any b 0 4194304 (by omega) (by omega) (by omega) w).mono ?_
  rintro e w1 ⟨rfl, rfl⟩
  rw [Hy.out]
  go_wp2_with fail
  refine (live_c (0) (n + y) true HP.out w).mono ?_
  rintro e w1 ⟨rfl, rfl⟩
  go_wp2_with fail
  refine (live_c (0) (n + x) true HQ.out w).mono ?_
  rintro e w1 ⟨rfl, rfl⟩
  go_wp2_with fail
  refine (runs_any w).mono ?_
  rintro e w1 ⟨rfl, rfl⟩
  go_wp2
  go_ret
  exact ⟨rfl, rfl⟩
set_option maxRecDepth 100000 in
set_option maxHeartbeats 1000000 in
theorem over_gt_neg (e0 n0 a b n k x y : Int) (Hn : Hid (wi n0 1 1073741824 = n)) (Hk : Hid (wi e0 (-9) 2592000 = k)) (Hx : Hid (wi a 0 4194304 = x)) (Hy : Hid (wi b 0 4194304 = y)) (n1 : 1 ≤ n) (n2 : n ≤ 1073741824) (k1 : -9 ≤ k) (k2 : k ≤ 2592000) (x1 : 0 ≤ x) (x2 : x ≤ 4194304) (y1 : 0 ≤ y) (y2 : y ≤ 4194304) (ho : y < x) (he : k < 0) (w : World) : Calls Try.prog 5 #[.int .i64 e0, .int .i64 n0, .int .i64 a, .int .i64 b] w fun e w' => e = .returned (.bool true) ∧ w = w' := by
  have HD : Hid (dl k n = -1) := by show _ = _; unfold dl; rw [if_neg (by omega), if_pos he]
  have HP : Hid (lv (-1) (n + y) = false) := by show _ = _; unfold lv; simp; try omega
  have HQ : Hid (lv (-1) (n + x) = false) := by show _ = _; unfold lv; simp; try omega
  have hk : (k == 0) = false := by simp; omega
  go_enter Try.func5, Try.ntmps5
  go_wp2_with fail
  refine (within_any n0 1 1073741824 (by omega) (by omega) (by omega) w).mono ?_
  rintro e w1 ⟨rfl, rfl⟩
  rw [Hn.out]
  go_wp2_with fail
  refine (within_any e0 (-9) 2592000 (by omega) (by omega) (by omega) w).mono ?_
  rintro e w1 ⟨rfl, rfl⟩
  rw [Hk.out]
  go_wp2_with fail
  refine (dead_c k n (-1) HD.out w).mono ?_
  rintro e w1 ⟨rfl, rfl⟩
  go_wp2_with fail
  refine (within_any a 0 4194304 (by omega) (by omega) (by omega) w).mono ?_
  rintro e w1 ⟨rfl, rfl⟩
  rw [Hx.out]
  go_wp2_with fail
  refine (within_any b 0 4194304 (by omega) (by omega) (by omega) w).mono ?_
  rintro e w1 ⟨rfl, rfl⟩
  rw [Hy.out]
  go_wp2_with fail
  refine (live_c (-1) (n + y) false HP.out w).mono ?_
  rintro e w1 ⟨rfl, rfl⟩
  go_wp2_with fail
  refine (live_c (-1) (n + x) false HQ.out w).mono ?_
  rintro e w1 ⟨rfl, rfl⟩
  go_wp2_with fail
  refine (runs_any w).mono ?_
  rintro e w1 ⟨rfl, rfl⟩
  go_wp2
  go_ret
  exact ⟨rfl, rfl⟩
set_option maxRecDepth 100000 in
set_option maxHeartbeats 1000000 in
theorem over_gt_pos_tt (e0 n0 a b n k x y : Int) (Hn : Hid (wi n0 1 1073741824 = n)) (Hk : Hid (wi e0 (-9) 2592000 = k)) (Hx : Hid (wi a 0 4194304 = x)) (Hy : Hid (wi b 0 4194304 = y)) (n1 : 1 ≤ n) (n2 : n ≤ 1073741824) (k1 : -9 ≤ k) (k2 : k ≤ 2592000) (x1 : 0 ≤ x) (x2 : x ≤ 4194304) (y1 : 0 ≤ y) (y2 : y ≤ 4194304) (ho : y < x) (he : 0 < k) (h1 : y < k) (h2 : x < k) (w : World) : Calls Try.prog 5 #[.int .i64 e0, .int .i64 n0, .int .i64 a, .int .i64 b] w fun e w' => e = .returned (.bool true) ∧ w = w' := by
  have HD : Hid (dl k n = n + k) := by show _ = _; unfold dl; rw [if_neg (by omega), if_neg (by omega), if_pos k2, it_mid (by omega) (by omega)]
  have HP : Hid (lv (n + k) (n + y) = true) := by show _ = _; unfold lv; simp; try omega
  have HQ : Hid (lv (n + k) (n + x) = true) := by show _ = _; unfold lv; simp; try omega
  have hk : (k == 0) = false := by simp; omega
  go_enter Try.func5, Try.ntmps5
  go_wp2_with fail
  refine (within_any n0 1 1073741824 (by omega) (by omega) (by omega) w).mono ?_
  rintro e w1 ⟨rfl, rfl⟩
  rw [Hn.out]
  go_wp2_with fail
  refine (within_any e0 (-9) 2592000 (by omega) (by omega) (by omega) w).mono ?_
  rintro e w1 ⟨rfl, rfl⟩
  rw [Hk.out]
  go_wp2_with fail
  refine (dead_c k n (n + k) HD.out w).mono ?_
  rintro e w1 ⟨rfl, rfl⟩
  go_wp2_with fail
  refine (within_any a 0 4194304 (by omega) (by omega) (by omega) w).mono ?_
  rintro e w1 ⟨rfl, rfl⟩
  rw [Hx.out]
  go_wp2_with fail
  refine (within_any b 0 4194304 (by omega) (by omega) (by omega) w).mono ?_
  rintro e w1 ⟨rfl, rfl⟩
  rw [Hy.out]
  go_wp2_with fail
  refine (live_c (n + k) (n + y) true HP.out w).mono ?_
  rintro e w1 ⟨rfl, rfl⟩
  go_wp2_with fail
  refine (live_c (n + k) (n + x) true HQ.out w).mono ?_
  rintro e w1 ⟨rfl, rfl⟩
  go_wp2_with fail
  refine (runs_any w).mono ?_
  rintro e w1 ⟨rfl, rfl⟩
  go_wp2
  go_ret
  exact ⟨rfl, rfl⟩
set_option maxRecDepth 100000 in
set_option maxHeartbeats 1000000 in
theorem over_gt_pos_tf (e0 n0 a b n k x y : Int) (Hn : Hid (wi n0 1 1073741824 = n)) (Hk : Hid (wi e0 (-9) 2592000 = k)) (Hx : Hid (wi a 0 4194304 = x)) (Hy : Hid (wi b 0 4194304 = y)) (n1 : 1 ≤ n) (n2 : n ≤ 1073741824) (k1 : -9 ≤ k) (k2 : k ≤ 2592000) (x1 : 0 ≤ x) (x2 : x ≤ 4194304) (y1 : 0 ≤ y) (y2 : y ≤ 4194304) (ho : y < x) (he : 0 < k) (h1 : y < k) (h2 : k ≤ x) (w : World) : Calls Try.prog 5 #[.int .i64 e0, .int .i64 n0, .int .i64 a, .int .i64 b] w fun e w' => e = .returned (.bool true) ∧ w = w' := by
  have HD : Hid (dl k n = n + k) := by show _ = _; unfold dl; rw [if_neg (by omega), if_neg (by omega), if_pos k2, it_mid (by omega) (by omega)]
  have HP : Hid (lv (n + k) (n + y) = true) := by show _ = _; unfold lv; simp; try omega
  have HQ : Hid (lv (n + k) (n + x) = false) := by show _ = _; unfold lv; simp; try omega
  have hk : (k == 0) = false := by simp; omega
  go_enter Try.func5, Try.ntmps5
  go_wp2_with fail
  refine (within_any n0 1 1073741824 (by omega) (by omega) (by omega) w).mono ?_
  rintro e w1 ⟨rfl, rfl⟩
  rw [Hn.out]
  go_wp2_with fail
  refine (within_any e0 (-9) 2592000 (by omega) (by omega) (by omega) w).mono ?_
  rintro e w1 ⟨rfl, rfl⟩
  rw [Hk.out]
  go_wp2_with fail
  refine (dead_c k n (n + k) HD.out w).mono ?_
  rintro e w1 ⟨rfl, rfl⟩
  go_wp2_with fail
  refine (within_any a 0 4194304 (by omega) (by omega) (by omega) w).mono ?_
  rintro e w1 ⟨rfl, rfl⟩
  rw [Hx.out]
  go_wp2_with fail
  refine (within_any b 0 4194304 (by omega) (by omega) (by omega) w).mono ?_
  rintro e w1 ⟨rfl, rfl⟩
  rw [Hy.out]
  go_wp2_with fail
  refine (live_c (n + k) (n + y) true HP.out w).mono ?_
  rintro e w1 ⟨rfl, rfl⟩
  go_wp2_with fail
  refine (live_c (n + k) (n + x) false HQ.out w).mono ?_
  rintro e w1 ⟨rfl, rfl⟩
  go_wp2_with fail
  refine (runs_any w).mono ?_
  rintro e w1 ⟨rfl, rfl⟩
  go_wp2
  go_ret
  exact ⟨rfl, rfl⟩
set_option maxRecDepth 100000 in
set_option maxHeartbeats 1000000 in
theorem over_gt_pos_ff (e0 n0 a b n k x y : Int) (Hn : Hid (wi n0 1 1073741824 = n)) (Hk : Hid (wi e0 (-9) 2592000 = k)) (Hx : Hid (wi a 0 4194304 = x)) (Hy : Hid (wi b 0 4194304 = y)) (n1 : 1 ≤ n) (n2 : n ≤ 1073741824) (k1 : -9 ≤ k) (k2 : k ≤ 2592000) (x1 : 0 ≤ x) (x2 : x ≤ 4194304) (y1 : 0 ≤ y) (y2 : y ≤ 4194304) (ho : y < x) (he : 0 < k) (h1 : k ≤ y) (h2 : k ≤ x) (w : World) : Calls Try.prog 5 #[.int .i64 e0, .int .i64 n0, .int .i64 a, .int .i64 b] w fun e w' => e = .returned (.bool true) ∧ w = w' := by
  have HD : Hid (dl k n = n + k) := by show _ = _; unfold dl; rw [if_neg (by omega), if_neg (by omega), if_pos k2, it_mid (by omega) (by omega)]
  have HP : Hid (lv (n + k) (n + y) = false) := by show _ = _; unfold lv; simp; try omega
  have HQ : Hid (lv (n + k) (n + x) = false) := by show _ = _; unfold lv; simp; try omega
  have hf : decide (y < k) = false := by simp; omega
  have hk : (k == 0) = false := by simp; omega
  go_enter Try.func5, Try.ntmps5
  go_wp2_with fail
  refine (within_any n0 1 1073741824 (by omega) (by omega) (by omega) w).mono ?_
  rintro e w1 ⟨rfl, rfl⟩
  rw [Hn.out]
  go_wp2_with fail
  refine (within_any e0 (-9) 2592000 (by omega) (by omega) (by omega) w).mono ?_
  rintro e w1 ⟨rfl, rfl⟩
  rw [Hk.out]
  go_wp2_with fail
  refine (dead_c k n (n + k) HD.out w).mono ?_
  rintro e w1 ⟨rfl, rfl⟩
  go_wp2_with fail
  refine (within_any a 0 4194304 (by omega) (by omega) (by omega) w).mono ?_
  rintro e w1 ⟨rfl, rfl⟩
  rw [Hx.out]
  go_wp2_with fail
  refine (within_any b 0 4194304 (by omega) (by omega) (by omega) w).mono ?_
  rintro e w1 ⟨rfl, rfl⟩
  rw [Hy.out]
  go_wp2_with fail
  refine (live_c (n + k) (n + y) false HP.out w).mono ?_
  rintro e w1 ⟨rfl, rfl⟩
  go_wp2_with fail
  refine (live_c (n + k) (n + x) false HQ.out w).mono ?_
  rintro e w1 ⟨rfl, rfl⟩
  go_wp2_with fail
  refine (runs_any w).mono ?_
  rintro e w1 ⟨rfl, rfl⟩
  go_wp2
  go_ret
  exact ⟨rfl, rfl⟩
theorem over_walk (e0 n0 a b : Int) (w : World) : Calls Try.prog 5 #[.int .i64 e0, .int .i64 n0, .int .i64 a, .int .i64 b] w fun e w' => e = .returned (.bool true) ∧ w = w' := by
  obtain ⟨n1, n2⟩ := wi_bd n0 1 1073741824 (by omega)
  obtain ⟨k1, k2⟩ := wi_bd e0 (-9) 2592000 (by omega)
  obtain ⟨x1, x2⟩ := wi_bd a 0 4194304 (by omega)
  obtain ⟨y1, y2⟩ := wi_bd b 0 4194304 (by omega)
  generalize hn : wi n0 1 1073741824 = n at n1 n2
  generalize hk : wi e0 (-9) 2592000 = k at k1 k2
  generalize hx : wi a 0 4194304 = x at x1 x2
  generalize hy : wi b 0 4194304 = y at y1 y2
  rcases Int.lt_trichotomy x y with o | o | o <;> rcases Int.lt_trichotomy k 0 with h | h | h
  · exact over_lt_neg e0 n0 a b n k x y hn hk hx hy n1 n2 k1 k2 x1 x2 y1 y2 o h w
  · exact over_lt_zero e0 n0 a b n k x y hn hk hx hy n1 n2 k1 k2 x1 x2 y1 y2 o h w
  · by_cases p : x < k
    · by_cases q : y < k
      · exact over_lt_pos_tt e0 n0 a b n k x y hn hk hx hy n1 n2 k1 k2 x1 x2 y1 y2 o h p q w
      · exact over_lt_pos_tf e0 n0 a b n k x y hn hk hx hy n1 n2 k1 k2 x1 x2 y1 y2 o h p (by omega) w
    · exact over_lt_pos_ff e0 n0 a b n k x y hn hk hx hy n1 n2 k1 k2 x1 x2 y1 y2 o h (by omega) (by omega) w
  · exact over_eq_neg e0 n0 a b n k x y hn hk hx hy n1 n2 k1 k2 x1 x2 y1 y2 o h w
  · exact over_eq_zero e0 n0 a b n k x y hn hk hx hy n1 n2 k1 k2 x1 x2 y1 y2 o h w
  · by_cases p : x < k
    · exact over_eq_pos_tt e0 n0 a b n k x y hn hk hx hy n1 n2 k1 k2 x1 x2 y1 y2 o h p w
    · exact over_eq_pos_ff e0 n0 a b n k x y hn hk hx hy n1 n2 k1 k2 x1 x2 y1 y2 o h (by omega) w
  · exact over_gt_neg e0 n0 a b n k x y hn hk hx hy n1 n2 k1 k2 x1 x2 y1 y2 o h w
  · exact over_gt_zero e0 n0 a b n k x y hn hk hx hy n1 n2 k1 k2 x1 x2 y1 y2 o h w
  · by_cases p : y < k
    · by_cases q : x < k
      · exact over_gt_pos_tt e0 n0 a b n k x y hn hk hx hy n1 n2 k1 k2 x1 x2 y1 y2 o h p q w
      · exact over_gt_pos_tf e0 n0 a b n k x y hn hk hx hy n1 n2 k1 k2 x1 x2 y1 y2 o h p (by omega) w
    · exact over_gt_pos_ff e0 n0 a b n k x y hn hk hx hy n1 n2 k1 k2 x1 x2 y1 y2 o h (by omega) (by omega) w
end Go.Proofs.Ytgfibddogcnilaa
