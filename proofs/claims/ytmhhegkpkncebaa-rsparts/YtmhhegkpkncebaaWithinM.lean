/-
  WITHIN: its contract: from 0 to h, whatever the number.
-/
import Derived.Test.YtmhhegkpkncebaaMulInv
namespace Go.Proofs.Ytmhhegkpkncebaa
open Go.RowKit
theorem tmod_bd (n : Int) (h : Nat) : -((h : Int) + 1) < n.tmod ((h : Int) + 1) ∧ n.tmod ((h : Int) + 1) < (h : Int) + 1 := by
  have h1 := Int.tmod_lt_of_pos n (show (0 : Int) < (h : Int) + 1 by omega)
  have h2 := Int.lt_tmod_of_pos n (show (0 : Int) < (h : Int) + 1 by omega)
  exact ⟨h2, h1⟩

set_option maxHeartbeats 400000 in
theorem within_any (n : Int) (h : Nat) (hh : h ≤ 4611686018427387000) (w : World) :
    Calls Try.prog 15 #[.int .i64 n, .int .i64 0, .int .i64 (h : Int)] w fun e w' => (∃ k : Nat, k ≤ h ∧ e = .returned (.int .i64 (k : Int))) ∧ w' = w := by
  obtain ⟨q1, q2⟩ := tmod_bd n h
  obtain ⟨q, hq⟩ : ∃ q, n.tmod ((h : Int) + 1) = q := ⟨_, rfl⟩
  rw [hq] at q1 q2
  have hne : ((h : Int) + 1 == 0) = false := by simp; omega
  have hne2 : ¬ ((h : Int) + 1 = -1) := by omega
  by_cases q0 : q < 0
  · go_enter Try.func15, Try.ntmps15
    go_wp2
    go_ret
    exact ⟨⟨(q + h + 1).toNat, by omega, ret_int (by omega)⟩, rfl⟩
  · go_enter Try.func15, Try.ntmps15
    go_wp2
    go_ret
    exact ⟨⟨q.toNat, by omega, ret_int (by omega)⟩, rfl⟩
theorem within_c (n L H : Int) (h : Nat) (hL : L = 0) (hH : H = (h : Int)) (hh : h ≤ 4611686018427387000) (w : World) :
    Calls Try.prog 15 #[.int .i64 n, .int .i64 L, .int .i64 H] w fun e w' => (∃ k : Nat, k ≤ h ∧ e = .returned (.int .i64 (k : Int))) ∧ w' = w := by
  subst hL hH; exact within_any n h hh w
end Go.Proofs.Ytmhhegkpkncebaa
