/-
  NUMBERS HELD AGAINST LIMITS: inTime, Deadline, Live, Later; the reference's Deadline and Live; Within.
-/
import Derived.Test.YtpkmfckifnomeaaDoorMem
import Derived.WalkKit
import Derived.WalkSpells
import Derived.WalkLawsBesides
import Derived.Deep.QuietTactic
import Derived.BigQuiet
import Derived.OpenShut
import Derived.ChangeOld
import Derived.Below
namespace Go.Proofs.YtpkmfckifnomeaaDoor
open Go.RowKit

theorem ret_bool {a b : Bool} (h : a = b) : Ending.returned (.bool a) = .returned (.bool b) := by rw [h]
/-- A number brought into the times. -/
def it (n : Int) : Int := if n < 0 then 0 else if n < 1099511627776 then n else 1099511627776
theorem it_bd (n : Int) : 0 ≤ it n ∧ it n ≤ 1099511627776 := by unfold it; split <;> (try split) <;> omega
set_option maxRecDepth 100000 in
set_option maxHeartbeats 1000000 in
theorem intime_any (n : Int) (w : World) : Calls Tryd.prog 53 #[.int .i64 n] w fun e w' => e = .returned (.int .i64 (it n)) ∧ w = w' := by
  obtain ⟨a, ha⟩ : ∃ a, it n = a := ⟨_, rfl⟩
  have Ha : Hid (it n = a) := ha
  rw [ha]; clear ha
  by_cases h1 : 1099511627776 < n
  · have e1 : it n = 1099511627776 := by unfold it; rw [if_neg (by omega), if_neg (by omega)]
    have Hb : Hid (1099511627776 = a) := e1.symm.trans Ha.out
    clear Ha e1
    go_enter Tryd.func53, Tryd.ntmps53
    go_wp2
    go_ret
    exact ⟨ret_int Hb.out, rfl⟩
  · by_cases h2 : n ≤ 0
    · have e1 : it n = 0 := by unfold it; split <;> (try split) <;> omega
      have Hb : Hid (0 = a) := e1.symm.trans Ha.out
      clear Ha e1
      go_enter Tryd.func53, Tryd.ntmps53
      go_wp2
      go_ret
      exact ⟨ret_int Hb.out, rfl⟩
    · have e1 : it n = n := by unfold it; split <;> (try split) <;> omega
      have Hb : Hid (n = a) := e1.symm.trans Ha.out
      clear Ha e1
      go_enter Tryd.func53, Tryd.ntmps53
      go_wp2
      go_ret
      exact ⟨ret_int Hb.out, rfl⟩
/-- What Deadline answers. -/
def dl (e n : Int) : Int := if e = 0 then 0 else if e < 0 then -1 else if e ≤ 2592000 then it n + e else if e < 1099511627776 then e else 1099511627776
/-- What Live answers. -/
def lv (d n : Int) : Bool := decide (d = 0) || (decide (0 < d) && decide (n < d))
set_option maxRecDepth 100000 in
set_option maxHeartbeats 1000000 in
theorem dead_c (x n R : Int) (h : dl x n = R) (w : World) : Calls Tryd.prog 33 #[.int .i64 x, .int .i64 n] w fun e w' => e = .returned (.int .i64 R) ∧ w = w' := by
  by_cases h0 : x = 0
  · have HR : Hid (0 = R) := by show _ = _; rw [← h]; unfold dl; rw [if_pos h0]
    clear h
    subst h0
    go_enter Tryd.func33, Tryd.ntmps33
    go_wp2
    go_ret
    exact ⟨ret_int HR.out, rfl⟩
  by_cases h1 : x < 0
  · have HR : Hid (-1 = R) := by show _ = _; rw [← h]; unfold dl; rw [if_neg h0, if_pos h1]
    clear h
    go_enter Tryd.func33, Tryd.ntmps33
    go_wp2
    go_ret
    exact ⟨ret_int HR.out, rfl⟩
  by_cases h2 : x ≤ 2592000
  · obtain ⟨b1, b2⟩ := it_bd n
    have HR : Hid (it n + x = R) := by show _ = _; rw [← h]; unfold dl; rw [if_neg h0, if_neg h1, if_pos h2]
    clear h
    obtain ⟨b, hb⟩ : ∃ b, it n = b := ⟨_, rfl⟩
    rw [hb] at b1 b2 HR
    have Hb : Hid (it n = b) := hb
    clear hb
    go_enter Tryd.func33, Tryd.ntmps33
    go_wp2_with fail
    refine (intime_any n w).mono ?_
    rintro e w1 ⟨rfl, rfl⟩
    rw [Hb.out]
    go_wp2
    go_ret
    exact ⟨ret_int HR.out, rfl⟩
  by_cases h3 : 1099511627776 < x
  · have HR : Hid (1099511627776 = R) := by show _ = _; rw [← h]; unfold dl; rw [if_neg h0, if_neg h1, if_neg h2, if_neg (by omega)]
    clear h
    go_enter Tryd.func33, Tryd.ntmps33
    go_wp2
    go_ret
    exact ⟨ret_int HR.out, rfl⟩
  · have HR : Hid (x = R) := by show _ = _; rw [← h]; unfold dl; rw [if_neg h0, if_neg h1, if_neg h2]; split <;> omega
    clear h
    go_enter Tryd.func33, Tryd.ntmps33
    go_wp2
    go_ret
    exact ⟨ret_int HR.out, rfl⟩
set_option maxRecDepth 100000 in
set_option maxHeartbeats 1000000 in
theorem live_c (d n : Int) (R : Bool) (h : lv d n = R) (w : World) : Calls Tryd.prog 63 #[.int .i64 d, .int .i64 n] w fun e w' => e = .returned (.bool R) ∧ w = w' := by
  by_cases h0 : d = 0
  · have HR : Hid (true = R) := by show _ = _; rw [← h]; unfold lv; simp [h0]
    clear h
    subst h0
    go_enter Tryd.func63, Tryd.ntmps63
    go_wp2
    go_ret
    exact ⟨ret_bool HR.out, rfl⟩
  have hd : (d == 0) = false := by simp [h0]
  by_cases h1 : 0 < d
  · by_cases h2 : n < d
    · have HR : Hid (true = R) := by show _ = _; rw [← h]; unfold lv; simp [h0, h1, h2]
      clear h
      go_enter Tryd.func63, Tryd.ntmps63
      go_wp2
      go_ret
      exact ⟨ret_bool HR.out, rfl⟩
    · have HR : Hid (false = R) := by show _ = _; rw [← h]; unfold lv; simp [h0, h1]; omega
      clear h
      go_enter Tryd.func63, Tryd.ntmps63
      go_wp2
      go_ret
      exact ⟨ret_bool HR.out, rfl⟩
  · have HR : Hid (false = R) := by show _ = _; rw [← h]; unfold lv; simp [h0, h1]
    clear h
    go_enter Tryd.func63, Tryd.ntmps63
    go_wp2
    go_ret
    exact ⟨ret_bool HR.out, rfl⟩
set_option maxRecDepth 100000 in
set_option maxHeartbeats 1000000 in
theorem rdead_c (x n R : Int) (h : dl x n = R) (w : World) : Calls Tryd.prog 42 #[.int .i64 x, .int .i64 n] w fun e w' => e = .returned (.int .i64 R) ∧ w = w' := by
  by_cases h0 : x = 0
  · have HR : Hid (0 = R) := by show _ = _; rw [← h]; unfold dl; rw [if_pos h0]
    clear h
    subst h0
    go_enter Tryd.func42, Tryd.ntmps42
    go_wp2
    go_ret
    exact ⟨ret_int HR.out, rfl⟩
  by_cases h1 : x < 0
  · have HR : Hid (-1 = R) := by show _ = _; rw [← h]; unfold dl; rw [if_neg h0, if_pos h1]
    clear h
    go_enter Tryd.func42, Tryd.ntmps42
    go_wp2
    go_ret
    exact ⟨ret_int HR.out, rfl⟩
  by_cases h2 : x ≤ 2592000
  · obtain ⟨b1, b2⟩ := it_bd n
    have HR : Hid (it n + x = R) := by show _ = _; rw [← h]; unfold dl; rw [if_neg h0, if_neg h1, if_pos h2]
    clear h
    obtain ⟨b, hb⟩ : ∃ b, it n = b := ⟨_, rfl⟩
    rw [hb] at b1 b2 HR
    have Hb : Hid (it n = b) := hb
    clear hb
    by_cases n0 : n < 0
    · have HN : Hid (0 = b) := by show _ = _; rw [← Hb.out]; unfold it; split <;> (try split) <;> omega
      go_enter Tryd.func42, Tryd.ntmps42
      go_wp2
      go_ret
      exact ⟨ret_int (by have := HN.out; have := HR.out; omega), rfl⟩
    by_cases n1 : 1099511627776 < n
    · have HN : Hid (1099511627776 = b) := by show _ = _; rw [← Hb.out]; unfold it; split <;> (try split) <;> omega
      go_enter Tryd.func42, Tryd.ntmps42
      go_wp2
      go_ret
      exact ⟨ret_int (by have := HN.out; have := HR.out; omega), rfl⟩
    · have HN : Hid (n = b) := by show _ = _; rw [← Hb.out]; unfold it; split <;> (try split) <;> omega
      go_enter Tryd.func42, Tryd.ntmps42
      go_wp2
      go_ret
      exact ⟨ret_int (by have := HN.out; have := HR.out; omega), rfl⟩
  by_cases h3 : 1099511627776 < x
  · have HR : Hid (1099511627776 = R) := by show _ = _; rw [← h]; unfold dl; rw [if_neg h0, if_neg h1, if_neg h2, if_neg (by omega)]
    clear h
    go_enter Tryd.func42, Tryd.ntmps42
    go_wp2
    go_ret
    exact ⟨ret_int HR.out, rfl⟩
  · have HR : Hid (x = R) := by show _ = _; rw [← h]; unfold dl; rw [if_neg h0, if_neg h1, if_neg h2]; split <;> omega
    clear h
    go_enter Tryd.func42, Tryd.ntmps42
    go_wp2
    go_ret
    exact ⟨ret_int HR.out, rfl⟩
set_option maxRecDepth 100000 in
set_option maxHeartbeats 1000000 in
theorem rlive_c (d n : Int) (R : Bool) (h : lv d n = R) (w : World) : Calls Tryd.prog 48 #[.int .i64 d, .int .i64 n] w fun e w' => e = .returned (.bool R) ∧ w = w' := by
  by_cases h0 : d = 0
  · have HR : Hid (true = R) := by show _ = _; rw [← h]; unfold lv; simp [h0]
    clear h
    subst h0
    go_enter Tryd.func48, Tryd.ntmps48
    go_wp2
    go_ret
    exact ⟨ret_bool HR.out, rfl⟩
  have hd : (d == 0) = false := by simp [h0]
  by_cases h1 : 0 < d
  · by_cases h2 : n < d
    · have HR : Hid (true = R) := by show _ = _; rw [← h]; unfold lv; simp [h0, h1, h2]
      clear h
      go_enter Tryd.func48, Tryd.ntmps48
      go_wp2
      go_ret
      exact ⟨ret_bool HR.out, rfl⟩
    · have HR : Hid (false = R) := by show _ = _; rw [← h]; unfold lv; simp [h0, h1]; omega
      clear h
      go_enter Tryd.func48, Tryd.ntmps48
      go_wp2
      go_ret
      exact ⟨ret_bool HR.out, rfl⟩
  · have HR : Hid (false = R) := by show _ = _; rw [← h]; unfold lv; simp [h0, h1]
    clear h
    go_enter Tryd.func48, Tryd.ntmps48
    go_wp2
    go_ret
    exact ⟨ret_bool HR.out, rfl⟩
theorem tmod_bd (n : Int) (h : Nat) : -((h : Int) + 1) < n.tmod ((h : Int) + 1) ∧ n.tmod ((h : Int) + 1) < (h : Int) + 1 := by
  have h1 := Int.tmod_lt_of_pos n (show (0 : Int) < (h : Int) + 1 by omega)
  have h2 := Int.lt_tmod_of_pos n (show (0 : Int) < (h : Int) + 1 by omega)
  exact ⟨h2, h1⟩
/-- What Within answers. -/
def wi (n L H : Int) : Int := let q := n.tmod (H - L + 1); if q < 0 then L + (q + H - L + 1) else L + q
theorem wi_bd (n L H : Int) (hLH : L ≤ H) : L ≤ wi n L H ∧ wi n L H ≤ H := by
  obtain ⟨d, hd⟩ : ∃ d : Nat, H - L = (d : Int) := ⟨(H - L).toNat, by omega⟩
  obtain ⟨q1, q2⟩ := tmod_bd n d
  unfold wi
  rw [hd]
  simp only
  split <;> omega
set_option maxRecDepth 100000 in
set_option maxHeartbeats 400000 in
/-- Within: a number of the bounds. -/
theorem within_any (n L H : Int) (hL : -1000 ≤ L) (hLH : L ≤ H) (hH : H ≤ 1000000000000) (w : World) :
    Calls Tryd.prog 22 #[.int .i64 n, .int .i64 L, .int .i64 H] w fun e w' => e = .returned (.int .i64 (wi n L H)) ∧ w = w' := by
  obtain ⟨d, hd⟩ : ∃ d : Nat, H - L = (d : Int) := ⟨(H - L).toNat, by omega⟩
  have hHL : H = L + (d : Int) := by omega
  subst hHL
  obtain ⟨q1, q2⟩ := tmod_bd n d
  have HWI : Hid (wi n L (L + (d : Int)) = if n.tmod ((d : Int) + 1) < 0 then L + (n.tmod ((d : Int) + 1) + (L + d) - L + 1) else L + n.tmod ((d : Int) + 1)) := by
    show _ = _; unfold wi; rw [show L + (d : Int) - L + 1 = (d : Int) + 1 by omega]
  clear hd
  obtain ⟨q, hq⟩ : ∃ q, n.tmod ((d : Int) + 1) = q := ⟨_, rfl⟩
  rw [hq] at q1 q2 HWI
  have e1 : L + (d : Int) - L + 1 = (d : Int) + 1 := by omega
  have hne : ((d : Int) + 1 == 0) = false := by simp; omega
  have hne2 : ¬ ((d : Int) + 1 = -1) := by omega
  have hne3 : ¬ ((d : Int) + 1 = 0) := by omega
  by_cases q0 : q < 0
  · go_enter Tryd.func22, Tryd.ntmps22
    go_wp2
    go_ret
    exact ⟨ret_int (by rw [HWI.out, if_pos q0]), rfl⟩
  · go_enter Tryd.func22, Tryd.ntmps22
    go_wp2
    go_ret
    exact ⟨ret_int (by rw [HWI.out, if_neg (by omega)]), rfl⟩
end Go.Proofs.YtpkmfckifnomeaaDoor
