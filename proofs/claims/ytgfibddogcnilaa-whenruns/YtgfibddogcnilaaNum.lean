/-
  NUMBERS HELD AGAINST LIMITS: inTime, Deadline, Live, Later; the reference's Deadline and Live; Within.
-/
import Derived.Test.YtgfibddogcnilaaRows
import Derived.WalkKit
import Derived.WalkSpells
import Derived.WalkLawsBesides
import Derived.Deep.QuietTactic
import Derived.BigQuiet
import Derived.OpenShut
import Derived.ChangeOld
import Derived.Below
namespace Go.Proofs.Ytgfibddogcnilaa
open Go.RowKit

theorem ret_int {k : IntKind} {a b : Int} (h : a = b) : Ending.returned (.int k a) = .returned (.int k b) := by rw [h]
theorem ret_bool {a b : Bool} (h : a = b) : Ending.returned (.bool a) = .returned (.bool b) := by rw [h]
/-- A number brought into the times. -/
def it (n : Int) : Int := if n < 0 then 0 else if n < 1099511627776 then n else 1099511627776
theorem it_bd (n : Int) : 0 ≤ it n ∧ it n ≤ 1099511627776 := by unfold it; split <;> (try split) <;> omega
set_option maxRecDepth 100000 in
set_option maxHeartbeats 1000000 in
theorem intime_any (n : Int) (w : World) : Calls Try.prog 13 #[.int .i64 n] w fun e w' => e = .returned (.int .i64 (it n)) ∧ w = w' := by
  obtain ⟨a, ha⟩ : ∃ a, it n = a := ⟨_, rfl⟩
  have Ha : Hid (it n = a) := ha
  rw [ha]; clear ha
  by_cases h1 : 1099511627776 < n
  · have e1 : it n = 1099511627776 := by unfold it; rw [if_neg (by omega), if_neg (by omega)]
    have Hb : Hid (1099511627776 = a) := e1.symm.trans Ha.out
    clear Ha e1
    go_enter Try.func13, Try.ntmps13
    go_wp2
    go_ret
    exact ⟨ret_int Hb.out, rfl⟩
  · by_cases h2 : n ≤ 0
    · have e1 : it n = 0 := by unfold it; split <;> (try split) <;> omega
      have Hb : Hid (0 = a) := e1.symm.trans Ha.out
      clear Ha e1
      go_enter Try.func13, Try.ntmps13
      go_wp2
      go_ret
      exact ⟨ret_int Hb.out, rfl⟩
    · have e1 : it n = n := by unfold it; split <;> (try split) <;> omega
      have Hb : Hid (n = a) := e1.symm.trans Ha.out
      clear Ha e1
      go_enter Try.func13, Try.ntmps13
      go_wp2
      go_ret
      exact ⟨ret_int Hb.out, rfl⟩
set_option maxRecDepth 100000 in
set_option maxHeartbeats 1000000 in
theorem later_any (n t : Int) (w : World) : Calls Try.prog 9 #[.int .i64 n, .int .i64 t] w fun e w' => e = .returned (.int .i64 (it (it n + it t))) ∧ w = w' := by
  obtain ⟨a1, a2⟩ := it_bd n
  obtain ⟨b1, b2⟩ := it_bd t
  obtain ⟨a, ha⟩ : ∃ a, it n = a := ⟨_, rfl⟩
  obtain ⟨b, hb⟩ : ∃ b, it t = b := ⟨_, rfl⟩
  rw [ha] at a1 a2 ⊢
  rw [hb] at b1 b2 ⊢
  have Ha : Hid (it n = a) := ha
  have Hb : Hid (it t = b) := hb
  clear ha hb
  go_enter Try.func9, Try.ntmps9
  go_wp2_with fail
  refine (intime_any n w).mono ?_
  rintro e w1 ⟨rfl, rfl⟩
  rw [Ha.out]
  go_wp2_with fail
  refine (intime_any t w).mono ?_
  rintro e w1 ⟨rfl, rfl⟩
  rw [Hb.out]
  go_wp2_with fail
  refine (intime_any (a + b) w).mono ?_
  rintro e w1 ⟨rfl, rfl⟩
  go_wp2
  go_ret
  exact ⟨rfl, rfl⟩
theorem later_c (n t R : Int) (h : it (it n + it t) = R) (w : World) : Calls Try.prog 9 #[.int .i64 n, .int .i64 t] w fun e w' => e = .returned (.int .i64 R) ∧ w = w' := by
  rw [← h]; exact later_any n t w
/-- What Deadline answers. -/
def dl (e n : Int) : Int := if e = 0 then 0 else if e < 0 then -1 else if e ≤ 2592000 then it n + e else if e < 1099511627776 then e else 1099511627776
/-- What Live answers. -/
def lv (d n : Int) : Bool := decide (d = 0) || (decide (0 < d) && decide (n < d))
set_option maxRecDepth 100000 in
set_option maxHeartbeats 1000000 in
theorem dead_c (x n R : Int) (h : dl x n = R) (w : World) : Calls Try.prog 7 #[.int .i64 x, .int .i64 n] w fun e w' => e = .returned (.int .i64 R) ∧ w = w' := by
  by_cases h0 : x = 0
  · have HR : Hid (0 = R) := by show _ = _; rw [← h]; unfold dl; rw [if_pos h0]
    clear h
    subst h0
    go_enter Try.func7, Try.ntmps7
    go_wp2
    go_ret
    exact ⟨ret_int HR.out, rfl⟩
  by_cases h1 : x < 0
  · have HR : Hid (-1 = R) := by show _ = _; rw [← h]; unfold dl; rw [if_neg h0, if_pos h1]
    clear h
    go_enter Try.func7, Try.ntmps7
    go_wp2
    go_ret
    exact ⟨ret_int HR.out, rfl⟩
  by_cases h2 : x ≤ 2592000
  · obtain ⟨b1, b2⟩ := it_bd n
    have HR : Hid (it n + x = R) := by show _ = _; rw [← h]; unfold dl; rw [if_neg h0, if_neg h1, if_pos h2]
    clear h
    obtain ⟨b, hb⟩ : ∃ b, it n = b := ⟨_, rfl⟩
    rw [hb] at b1 b2 HR
    have Hb : Hid (it n = b) := hb
    clear hb
    go_enter Try.func7, Try.ntmps7
    go_wp2_with fail
    refine (intime_any n w).mono ?_
    rintro e w1 ⟨rfl, rfl⟩
    rw [Hb.out]
    go_wp2
    go_ret
    exact ⟨ret_int HR.out, rfl⟩
  by_cases h3 : 1099511627776 < x
  · have HR : Hid (1099511627776 = R) := by show _ = _; rw [← h]; unfold dl; rw [if_neg h0, if_neg h1, if_neg h2, if_neg (by omega)]
    clear h
    go_enter Try.func7, Try.ntmps7
    go_wp2
    go_ret
    exact ⟨ret_int HR.out, rfl⟩
  · have HR : Hid (x = R) := by show _ = _; rw [← h]; unfold dl; rw [if_neg h0, if_neg h1, if_neg h2]; split <;> omega
    clear h
    go_enter Try.func7, Try.ntmps7
    go_wp2
    go_ret
    exact ⟨ret_int HR.out, rfl⟩
set_option maxRecDepth 100000 in
set_option maxHeartbeats 1000000 in
theorem live_c (d n : Int) (R : Bool) (h : lv d n = R) (w : World) : Calls Try.prog 8 #[.int .i64 d, .int .i64 n] w fun e w' => e = .returned (.bool R) ∧ w = w' := by
  by_cases h0 : d = 0
  · have HR : Hid (true = R) := by show _ = _; rw [← h]; unfold lv; simp [h0]
    clear h
    subst h0
    go_enter Try.func8, Try.ntmps8
    go_wp2
    go_ret
    exact ⟨ret_bool HR.out, rfl⟩
  have hd : (d == 0) = false := by simp [h0]
  by_cases h1 : 0 < d
  · by_cases h2 : n < d
    · have HR : Hid (true = R) := by show _ = _; rw [← h]; unfold lv; simp [h0, h1, h2]
      clear h
      go_enter Try.func8, Try.ntmps8
      go_wp2
      go_ret
      exact ⟨ret_bool HR.out, rfl⟩
    · have HR : Hid (false = R) := by show _ = _; rw [← h]; unfold lv; simp [h0, h1]; omega
      clear h
      go_enter Try.func8, Try.ntmps8
      go_wp2
      go_ret
      exact ⟨ret_bool HR.out, rfl⟩
  · have HR : Hid (false = R) := by show _ = _; rw [← h]; unfold lv; simp [h0, h1]
    clear h
    go_enter Try.func8, Try.ntmps8
    go_wp2
    go_ret
    exact ⟨ret_bool HR.out, rfl⟩
set_option maxRecDepth 100000 in
set_option maxHeartbeats 1000000 in
theorem rdead_c (x n R : Int) (h : dl x n = R) (w : World) : Calls Try.prog 10 #[.int .i64 x, .int .i64 n] w fun e w' => e = .returned (.int .i64 R) ∧ w = w' := by
  by_cases h0 : x = 0
  · have HR : Hid (0 = R) := by show _ = _; rw [← h]; unfold dl; rw [if_pos h0]
    clear h
    subst h0
    go_enter Try.func10, Try.ntmps10
    go_wp2
    go_ret
    exact ⟨ret_int HR.out, rfl⟩
  by_cases h1 : x < 0
  · have HR : Hid (-1 = R) := by show _ = _; rw [← h]; unfold dl; rw [if_neg h0, if_pos h1]
    clear h
    go_enter Try.func10, Try.ntmps10
    go_wp2
    go_ret
    exact ⟨ret_int HR.out, rfl⟩
  by_cases h2 : x ≤ 2592000
  · obtain ⟨b1, b2⟩ := it_bd n
    have HR : Hid (it n + x = R) := by show _ = _; rw [← h]; unfold dl; rw [if_neg h0, if_neg h1, if_pos h2]
    clear h
    obtain ⟨b, hb⟩ : ∃ b, it n = b := ⟨_, rfl⟩
    rw [hb] at b1 b2 HR
    have Hb : Hid (it n = b) := hb
    clear hb
    by_cases n0 : n < 0
    · have HN : Hid (0 = b) := by show _ = _; rw [← Hb.out]; unfold it; split <;> (try split) <;> omega
      go_enter Try.func10, Try.ntmps10
      go_wp2
      go_ret
      exact ⟨ret_int (by have := HN.out; have := HR.out; omega), rfl⟩
    by_cases n1 : 1099511627776 < n
    · have HN : Hid (1099511627776 = b) := by show _ = _; rw [← Hb.out]; unfold it; split <;> (try split) <;> omega
      go_enter Try.func10, Try.ntmps10
      go_wp2
      go_ret
      exact ⟨ret_int (by have := HN.out; have := HR.out; omega), rfl⟩
    · have HN : Hid (n = b) := by show _ = _; rw [← Hb.out]; unfold it; split <;> (try split) <;> omega
      go_enter Try.func10, Try.ntmps10
      go_wp2
      go_ret
      exact ⟨ret_int (by have := HN.out; have := HR.out; omega), rfl⟩
  by_cases h3 : 1099511627776 < x
  · have HR : Hid (1099511627776 = R) := by show _ = _; rw [← h]; unfold dl; rw [if_neg h0, if_neg h1, if_neg h2, if_neg (by omega)]
    clear h
    go_enter Try.func10, Try.ntmps10
    go_wp2
    go_ret
    exact ⟨ret_int HR.out, rfl⟩
  · have HR : Hid (x = R) := by show _ = _; rw [← h]; unfold dl; rw [if_neg h0, if_neg h1, if_neg h2]; split <;> omega
    clear h
    go_enter Try.func10, Try.ntmps10
    go_wp2
    go_ret
    exact ⟨ret_int HR.out, rfl⟩
set_option maxRecDepth 100000 in
set_option maxHeartbeats 1000000 in
theorem rlive_c (d n : Int) (R : Bool) (h : lv d n = R) (w : World) : Calls Try.prog 11 #[.int .i64 d, .int .i64 n] w fun e w' => e = .returned (.bool R) ∧ w = w' := by
  by_cases h0 : d = 0
  · have HR : Hid (true = R) := by show _ = _; rw [← h]; unfold lv; simp [h0]
    clear h
    subst h0
    go_enter Try.func11, Try.ntmps11
    go_wp2
    go_ret
    exact ⟨ret_bool HR.out, rfl⟩
  have hd : (d == 0) = false := by simp [h0]
  by_cases h1 : 0 < d
  · by_cases h2 : n < d
    · have HR : Hid (true = R) := by show _ = _; rw [← h]; unfold lv; simp [h0, h1, h2]
      clear h
      go_enter Try.func11, Try.ntmps11
      go_wp2
      go_ret
      exact ⟨ret_bool HR.out, rfl⟩
    · have HR : Hid (false = R) := by show _ = _; rw [← h]; unfold lv; simp [h0, h1]; omega
      clear h
      go_enter Try.func11, Try.ntmps11
      go_wp2
      go_ret
      exact ⟨ret_bool HR.out, rfl⟩
  · have HR : Hid (false = R) := by show _ = _; rw [← h]; unfold lv; simp [h0, h1]
    clear h
    go_enter Try.func11, Try.ntmps11
    go_wp2
    go_ret
    exact ⟨ret_bool HR.out, rfl⟩
theorem tmod_bd (n : Int) (h : Nat) : -((h : Int) + 1) < n.tmod ((h : Int) + 1) ∧ n.tmod ((h : Int) + 1) < (h : Int) + 1 := by
  have h1 := Int.tmod_lt_of_pos n (show (0 : Int) < (h : Int) + 1 by omega)
  have h2 := Int.lt_tmod_of_pos n (show (0 : Int) < (h : Int) + 1 by omega)
  exact ⟨h2, h1⟩
/-- What Within answers. -/
def wi (n L H : Int) : Int := let q := n.tmod (H - L + 1); if q < 0 then L + (q + H - L + 1) else L + q
theorem wi_bd (n L H : Int) (hLH : L ≤ H) : L ≤ wi n L H ∧ wi n L H ≤ H := by
  obtain ⟨d, hd⟩ : ∃ d : Nat, H - L = (d : Int) := ⟨(H - L).toNat, by omega⟩
  obtain ⟨q1, q2⟩ := tmod_bd n d
  unfold wi
  rw [hd]
  simp only
  split <;> omega
set_option maxRecDepth 100000 in
set_option maxHeartbeats 400000 in
/-- Within: a number of the bounds. -/
theorem within_any (n L H : Int) (hL : -1000 ≤ L) (hLH : L ≤ H) (hH : H ≤ 1000000000000) (w : World) :
    Calls Try.prog 12 #[.int .i64 n, .int .i64 L, .int .i64 H] w fun e w' => e = .returned (.int .i64 (wi n L H)) ∧ w = w' := by
  obtain ⟨d, hd⟩ : ∃ d : Nat, H - L = (d : Int) := ⟨(H - L).toNat, by omega⟩
  have hHL : H = L + (d : Int) := by omega
  subst hHL
  obtain ⟨q1, q2⟩ := tmod_bd n d
  have HWI : Hid (wi n L (L + (d : Int)) = if n.tmod ((d : Int) + 1) < 0 then L + (n.tmod ((d : Int) + 1) + (L + d) - L + 1) else L + n.tmod ((d : Int) + 1)) := by
    show _ = _; unfold wi; rw [show L + (d : Int) - L + 1 = (d : Int) + 1 by omega]
  clear hd
  obtain ⟨q, hq⟩ : ∃ q, n.tmod ((d : Int) + 1) = q := ⟨_, rfl⟩
  rw [hq] at q1 q2 HWI
  have e1 : L + (d : Int) - L + 1 = (d : Int) + 1 := by omega
  have hne : ((d : Int) + 1 == 0) = false := by simp; omega
  have hne2 : ¬ ((d : Int) + 1 = -1) := by omega
  have hne3 : ¬ ((d : Int) + 1 = 0) := by omega
  by_cases q0 : q < 0
  · go_enter Try.func12, Try.ntmps12
    go_wp2
    go_ret
    exact ⟨ret_int (by rw [HWI.out, if_pos q0]), rfl⟩
  · go_enter Try.func12, Try.ntmps12
    go_wp2
    go_ret
    exact ⟨ret_int (by rw [HWI.out, if_neg (by omega)]), rfl⟩
set_option maxRecDepth 100000 in
set_option maxHeartbeats 2000000 in
theorem runs_any (w : World) : Calls Try.prog 3 #[] w fun e w' => e = .returned (.bool true) ∧ w = w' := by
  go_enter Try.func3, Try.ntmps3
  go_wp2_with fail
  refine (dead_c (0) (5) 0 (by decide) w).mono ?_
  rintro e w1 ⟨rfl, rfl⟩
  go_wp2_with fail
  refine (dead_c (-3) (5) (-1) (by decide) w).mono ?_
  rintro e w1 ⟨rfl, rfl⟩
  go_wp2_with fail
  refine (dead_c (10) (5) 15 (by decide) w).mono ?_
  rintro e w1 ⟨rfl, rfl⟩
  go_wp2_with fail
  refine (dead_c (3000000) (5) 3000000 (by decide) w).mono ?_
  rintro e w1 ⟨rfl, rfl⟩
  go_wp2_with fail
  refine (live_c (0) (9) true (by decide) w).mono ?_
  rintro e w1 ⟨rfl, rfl⟩
  go_wp2_with fail
  refine (live_c (15) (14) true (by decide) w).mono ?_
  rintro e w1 ⟨rfl, rfl⟩
  go_wp2_with fail
  refine (live_c (15) (15) false (by decide) w).mono ?_
  rintro e w1 ⟨rfl, rfl⟩
  go_wp2_with fail
  refine (live_c (-1) (0) false (by decide) w).mono ?_
  rintro e w1 ⟨rfl, rfl⟩
  go_wp2_with fail
  refine (later_c (5) (-1) 5 (by decide) w).mono ?_
  rintro e w1 ⟨rfl, rfl⟩
  go_wp2
  go_ret
  exact ⟨rfl, rfl⟩
end Go.Proofs.Ytgfibddogcnilaa
