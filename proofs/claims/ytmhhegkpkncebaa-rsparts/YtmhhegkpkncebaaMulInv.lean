/-
  THE CONTRACTS of Mul and Inv over the translated program: each returns just what the plain mathematics says of the tables, and writes nothing.
-/
import Derived.Test.YtmhhegkpkncebaaTab
import Derived.Deep.QuietTactic
import Derived.BigQuiet
namespace Go.Proofs.Ytmhhegkpkncebaa
open Go.RowKit

set_option maxHeartbeats 400000 in
theorem mul_any (b x y : Nat) (hx : x < 256) (hy : y < 256) (w : World) (hT : HasTab w b) :
    Calls Try.prog 45 #[.pointer (some ⟨b, 1, none⟩), .int .u8 (x : Int), .int .u8 (y : Int)] w fun e w' => e = .returned (.int .u8 (Gf.mul x y : Nat)) ∧ ∃ n, w' = w.drewN n := by
  by_cases x0 : x = 0
  · subst x0
    go_enter Try.func45, Try.ntmps45
    go_wp2
    go_ret
    exact ⟨ret_int (by rw [Gf.zero_mul]; rfl), 0, rfl⟩
  · by_cases y0 : y = 0
    · subst y0
      have h1 : ((x : Int) == 0) = false := by simp; omega
      go_enter Try.func45, Try.ntmps45
      go_wp2
      go_ret
      exact ⟨ret_int (by rw [Gf.mul_zero]; rfl), 0, rfl⟩
    · have h1 : ((x : Int) == 0) = false := by simp; omega
      have h2 : ((y : Int) == 0) = false := by simp; omega
      have c1 := hT.lg x hx
      have c2 := hT.lg y hy
      have l1 := Gf.lg_lt hx
      have l2 := Gf.lg_lt hy
      have c3 := hT.ex (Gf.lg x + Gf.lg y) (by omega)
      go_enter Try.func45, Try.ntmps45
      go_wp2
      go_quiet (fail)
      go_wp2
      go_ret
      exact ⟨ret_int (by unfold Gf.mul; rw [if_neg (by omega)]), nq, rfl⟩

set_option maxHeartbeats 400000 in
theorem inv_any (b x : Nat) (hx : x < 256) (w : World) (hT : HasTab w b) :
    Calls Try.prog 43 #[.pointer (some ⟨b, 1, none⟩), .int .u8 (x : Int)] w fun e w' => e = .returned (.int .u8 (Gf.inv x : Nat)) ∧ ∃ n, w' = w.drewN n := by
  by_cases x0 : x = 0
  · subst x0
    go_enter Try.func43, Try.ntmps43
    go_wp2
    go_ret
    exact ⟨ret_int (by rw [Gf.inv_zero]; rfl), 0, rfl⟩
  · have h1 : ((x : Int) == 0) = false := by simp; omega
    have c1 := hT.lg x hx
    have l1 := Gf.lg_lt hx
    have c3 := hT.ex (255 - Gf.lg x) (by omega)
    have e1 : ((255 : Int) - (Gf.lg x : Nat)).toNat = 255 - Gf.lg x := by omega
    go_enter Try.func43, Try.ntmps43
    go_wp2
    go_quiet (fail)
    go_wp2
    go_ret
    exact ⟨ret_int (by unfold Gf.inv; rw [if_neg x0]), nq, rfl⟩

theorem HasTab.drewN {w : World} {b : Nat} (h : HasTab w b) (n : Nat) : HasTab (w.drewN n) b := by
  unfold HasTab at *; simpa using h
end Go.Proofs.Ytmhhegkpkncebaa
