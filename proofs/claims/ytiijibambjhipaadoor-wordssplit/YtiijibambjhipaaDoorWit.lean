/-
  Within: a number of the bounds.
-/
import Derived.Test.YtiijibambjhipaaDoorStr
namespace Go.Proofs.YtiijibambjhipaaDoor
open Go.RowKit

theorem tmod_bd (n : Int) (h : Nat) : -((h : Int) + 1) < n.tmod ((h : Int) + 1) ∧ n.tmod ((h : Int) + 1) < (h : Int) + 1 := by
  have h1 := Int.tmod_lt_of_pos n (show (0 : Int) < (h : Int) + 1 by omega)
  have h2 := Int.lt_tmod_of_pos n (show (0 : Int) < (h : Int) + 1 by omega)
  exact ⟨h2, h1⟩
/-- A number brought into bounds. -/
def wi (n L H : Int) : Int := let q := n.tmod (H - L + 1); if q < 0 then L + (q + H - L + 1) else L + q
theorem wi_bd (n L H : Int) (hLH : L ≤ H) : L ≤ wi n L H ∧ wi n L H ≤ H := by
  obtain ⟨d, hd⟩ : ∃ d : Nat, H - L = (d : Int) := ⟨(H - L).toNat, by omega⟩
  obtain ⟨q1, q2⟩ := tmod_bd n d
  unfold wi
  rw [hd]
  simp only
  split <;> omega
set_option maxRecDepth 100000 in
set_option maxHeartbeats 400000 in
/-- Within: a number of the bounds. -/
theorem within_any (n L H : Int) (hL : -1000 ≤ L) (hLH : L ≤ H) (hH : H ≤ 100000000) (w : World) :
    Calls Tryd.prog 21 #[.int .i64 n, .int .i64 L, .int .i64 H] w fun e w' => e = .returned (.int .i64 (wi n L H)) ∧ w = w' := by
  obtain ⟨d, hd⟩ : ∃ d : Nat, H - L = (d : Int) := ⟨(H - L).toNat, by omega⟩
  have hHL : H = L + (d : Int) := by omega
  subst hHL
  obtain ⟨q1, q2⟩ := tmod_bd n d
  have HWI : Hid (wi n L (L + (d : Int)) = if n.tmod ((d : Int) + 1) < 0 then L + (n.tmod ((d : Int) + 1) + (L + d) - L + 1) else L + n.tmod ((d : Int) + 1)) := by
    show _ = _; unfold wi; rw [show L + (d : Int) - L + 1 = (d : Int) + 1 by omega]
  clear hd
  obtain ⟨q, hq⟩ : ∃ q, n.tmod ((d : Int) + 1) = q := ⟨_, rfl⟩
  rw [hq] at q1 q2 HWI
  have e1 : L + (d : Int) - L + 1 = (d : Int) + 1 := by omega
  have hne : ((d : Int) + 1 == 0) = false := by simp; omega
  have hne2 : ¬ ((d : Int) + 1 = -1) := by omega
  have hne3 : ¬ ((d : Int) + 1 = 0) := by omega
  by_cases q0 : q < 0
  · go_enter Tryd.func21, Tryd.ntmps21
    go_wp2
    go_ret
    exact ⟨ret_int (by rw [HWI.out, if_pos q0]), rfl⟩
  · go_enter Tryd.func21, Tryd.ntmps21
    go_wp2
    go_ret
    exact ⟨ret_int (by rw [HWI.out, if_neg (by omega)]), rfl⟩
end Go.Proofs.YtiijibambjhipaaDoor
