/-
  WITHIN from lo to hi: its contract: from lo to hi, whatever the number.
-/
import Derived.Test.YtmhhegkpkncebaaWithinM
namespace Go.Proofs.Ytmhhegkpkncebaa
open Go.RowKit
set_option maxHeartbeats 400000 in
theorem within_lo (n : Int) (lo hi : Nat) (hlh : lo ≤ hi) (hh : hi ≤ 2305843009213693000) (w : World) :
    Calls Try.prog 15 #[.int .i64 n, .int .i64 (lo : Int), .int .i64 (hi : Int)] w fun e w' => (∃ k : Nat, lo ≤ k ∧ k ≤ hi ∧ e = .returned (.int .i64 (k : Int))) ∧ w' = w := by
  obtain ⟨d, rfl⟩ : ∃ d, hi = lo + d := ⟨hi - lo, by omega⟩
  obtain ⟨q1, q2⟩ := tmod_bd n d
  obtain ⟨q, hq⟩ : ∃ q, n.tmod ((d : Int) + 1) = q := ⟨_, rfl⟩
  rw [hq] at q1 q2
  have hsub : ((lo : Int) + (d : Int)) - (lo : Int) = (d : Int) := by omega
  have hne : ((d : Int) + 1 == 0) = false := by simp; omega
  have hne2 : ¬ ((d : Int) + 1 = -1) := by omega
  by_cases q0 : q < 0
  · go_enter Try.func15, Try.ntmps15
    go_wp2
    go_ret
    exact ⟨⟨(q + d + 1 + lo).toNat, by omega, by omega, ret_int (by omega)⟩, rfl⟩
  · go_enter Try.func15, Try.ntmps15
    go_wp2
    go_ret
    exact ⟨⟨(q + lo).toNat, by omega, by omega, ret_int (by omega)⟩, rfl⟩
theorem within_lc (n L H : Int) (lo hi : Nat) (hL : L = (lo : Int)) (hH : H = (hi : Int)) (hlh : lo ≤ hi) (hh : hi ≤ 2305843009213693000) (w : World) :
    Calls Try.prog 15 #[.int .i64 n, .int .i64 L, .int .i64 H] w fun e w' => (∃ k : Nat, lo ≤ k ∧ k ≤ hi ∧ e = .returned (.int .i64 (k : Int))) ∧ w' = w := by
  subst hL hH; exact within_lo n lo hi hlh hh w
end Go.Proofs.Ytmhhegkpkncebaa
