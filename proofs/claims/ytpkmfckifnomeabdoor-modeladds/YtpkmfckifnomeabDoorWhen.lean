/-
  NUMBERS HELD AGAINST LIMITS: inTime, Deadline, Live, Later; the reference's Deadline and Live; Within.
-/
import Derived.Test.YtpkmfckifnomeabDoorMem
import Derived.WalkKit
import Derived.WalkSpells
import Derived.WalkLawsBesides
import Derived.Deep.QuietTactic
import Derived.BigQuiet
import Derived.OpenShut
import Derived.ChangeOld
import Derived.Below
namespace Go.Proofs.YtpkmfckifnomeabDoor
open Go.RowKit

theorem ret_bool {a b : Bool} (h : a = b) : Ending.returned (.bool a) = .returned (.bool b) := by rw [h]
/-- A number brought into the times. -/
def it (n : Int) : Int := if n < 0 then 0 else if n < 1099511627776 then n else 1099511627776
theorem it_bd (n : Int) : 0 ≤ it n ∧ it n ≤ 1099511627776 := by unfold it; split <;> (try split) <;> omega
set_option maxRecDepth 100000 in
set_option maxHeartbeats 1000000 in
theorem intime_any (n : Int) (w : World) : Calls Tryd.prog 26 #[.int .i64 n] w fun e w' => e = .returned (.int .i64 (it n)) ∧ w = w' := by
  obtain ⟨a, ha⟩ : ∃ a, it n = a := ⟨_, rfl⟩
  have Ha : Hid (it n = a) := ha
  rw [ha]; clear ha
  by_cases h1 : 1099511627776 < n
  · have e1 : it n = 1099511627776 := by unfold it; rw [if_neg (by omega), if_neg (by omega)]
    have Hb : Hid (1099511627776 = a) := e1.symm.trans Ha.out
    clear Ha e1
    go_enter Tryd.func26, Tryd.ntmps26
    go_wp2
    go_ret
    exact ⟨ret_int Hb.out, rfl⟩
  · by_cases h2 : n ≤ 0
    · have e1 : it n = 0 := by unfold it; split <;> (try split) <;> omega
      have Hb : Hid (0 = a) := e1.symm.trans Ha.out
      clear Ha e1
      go_enter Tryd.func26, Tryd.ntmps26
      go_wp2
      go_ret
      exact ⟨ret_int Hb.out, rfl⟩
    · have e1 : it n = n := by unfold it; split <;> (try split) <;> omega
      have Hb : Hid (n = a) := e1.symm.trans Ha.out
      clear Ha e1
      go_enter Tryd.func26, Tryd.ntmps26
      go_wp2
      go_ret
      exact ⟨ret_int Hb.out, rfl⟩
/-- What Deadline answers. -/
def dl (e n : Int) : Int := if e = 0 then 0 else if e < 0 then -1 else if e ≤ 2592000 then it n + e else if e < 1099511627776 then e else 1099511627776
/-- What Live answers. -/
def lv (d n : Int) : Bool := decide (d = 0) || (decide (0 < d) && decide (n < d))
set_option maxRecDepth 100000 in
set_option maxHeartbeats 1000000 in
theorem dead_c (x n R : Int) (h : dl x n = R) (w : World) : Calls Tryd.prog 17 #[.int .i64 x, .int .i64 n] w fun e w' => e = .returned (.int .i64 R) ∧ w = w' := by
  by_cases h0 : x = 0
  · have HR : Hid (0 = R) := by show _ = _; rw [← h]; unfold dl; rw [if_pos h0]
    clear h
    subst h0
    go_enter Tryd.func17, Tryd.ntmps17
    go_wp2
    go_ret
    exact ⟨ret_int HR.out, rfl⟩
  by_cases h1 : x < 0
  · have HR : Hid (-1 = R) := by show _ = _; rw [← h]; unfold dl; rw [if_neg h0, if_pos h1]
    clear h
    go_enter Tryd.func17, Tryd.ntmps17
    go_wp2
    go_ret
    exact ⟨ret_int HR.out, rfl⟩
  by_cases h2 : x ≤ 2592000
  · obtain ⟨b1, b2⟩ := it_bd n
    have HR : Hid (it n + x = R) := by show _ = _; rw [← h]; unfold dl; rw [if_neg h0, if_neg h1, if_pos h2]
    clear h
    obtain ⟨b, hb⟩ : ∃ b, it n = b := ⟨_, rfl⟩
    rw [hb] at b1 b2 HR
    have Hb : Hid (it n = b) := hb
    clear hb
    go_enter Tryd.func17, Tryd.ntmps17
    go_wp2_with fail
    refine (intime_any n w).mono ?_
    rintro e w1 ⟨rfl, rfl⟩
    rw [Hb.out]
    go_wp2
    go_ret
    exact ⟨ret_int HR.out, rfl⟩
  by_cases h3 : 1099511627776 < x
  · have HR : Hid (1099511627776 = R) := by show _ = _; rw [← h]; unfold dl; rw [if_neg h0, if_neg h1, if_neg h2, if_neg (by omega)]
    clear h
    go_enter Tryd.func17, Tryd.ntmps17
    go_wp2
    go_ret
    exact ⟨ret_int HR.out, rfl⟩
  · have HR : Hid (x = R) := by show _ = _; rw [← h]; unfold dl; rw [if_neg h0, if_neg h1, if_neg h2]; split <;> omega
    clear h
    go_enter Tryd.func17, Tryd.ntmps17
    go_wp2
    go_ret
    exact ⟨ret_int HR.out, rfl⟩
set_option maxRecDepth 100000 in
set_option maxHeartbeats 1000000 in
theorem live_c (d n : Int) (R : Bool) (h : lv d n = R) (w : World) : Calls Tryd.prog 16 #[.int .i64 d, .int .i64 n] w fun e w' => e = .returned (.bool R) ∧ w = w' := by
  by_cases h0 : d = 0
  · have HR : Hid (true = R) := by show _ = _; rw [← h]; unfold lv; simp [h0]
    clear h
    subst h0
    go_enter Tryd.func16, Tryd.ntmps16
    go_wp2
    go_ret
    exact ⟨ret_bool HR.out, rfl⟩
  have hd : (d == 0) = false := by simp [h0]
  by_cases h1 : 0 < d
  · by_cases h2 : n < d
    · have HR : Hid (true = R) := by show _ = _; rw [← h]; unfold lv; simp [h0, h1, h2]
      clear h
      go_enter Tryd.func16, Tryd.ntmps16
      go_wp2
      go_ret
      exact ⟨ret_bool HR.out, rfl⟩
    · have HR : Hid (false = R) := by show _ = _; rw [← h]; unfold lv; simp [h0, h1]; omega
      clear h
      go_enter Tryd.func16, Tryd.ntmps16
      go_wp2
      go_ret
      exact ⟨ret_bool HR.out, rfl⟩
  · have HR : Hid (false = R) := by show _ = _; rw [← h]; unfold lv; simp [h0, h1]
    clear h
    go_enter Tryd.func16, Tryd.ntmps16
    go_wp2
    go_ret
    exact ⟨ret_bool HR.out, rfl⟩
end Go.Proofs.YtpkmfckifnomeabDoor
