/-
  THE CONTRACTS of Mul, Inv, Pow and Div over the translated program: each returns just what the plain mathematics says of the tables, and writes nothing.
-/
import Derived.Test.YtadabbodjkdkdaaTab
import Derived.Deep.QuietTactic
import Derived.BigQuiet
namespace Go.Proofs.Ytadabbodjkdkdaa
open Go.RowKit

set_option maxHeartbeats 400000 in
theorem mul_any (b x y : Nat) (hx : x < 256) (hy : y < 256) (w : World) (hT : HasTab w b) :
    Calls Try.prog 10 #[.pointer (some ⟨b, 0, none⟩), .int .u8 (x : Int), .int .u8 (y : Int)] w fun e w' => e = .returned (.int .u8 (Gf.mul x y : Nat)) ∧ ∃ n, w' = w.drewN n := by
  by_cases x0 : x = 0
  · subst x0
    go_enter Try.func10, Try.ntmps10
    go_wp2
    go_ret
    exact ⟨ret_int (by rw [Gf.zero_mul]; rfl), 0, rfl⟩
  · by_cases y0 : y = 0
    · subst y0
      have h1 : ((x : Int) == 0) = false := by simp; omega
      go_enter Try.func10, Try.ntmps10
      go_wp2
      go_ret
      exact ⟨ret_int (by rw [Gf.mul_zero]; rfl), 0, rfl⟩
    · have h1 : ((x : Int) == 0) = false := by simp; omega
      have h2 : ((y : Int) == 0) = false := by simp; omega
      have c1 := hT.lg x hx
      have c2 := hT.lg y hy
      have l1 := Gf.lg_lt hx
      have l2 := Gf.lg_lt hy
      have c3 := hT.ex (Gf.lg x + Gf.lg y) (by omega)
      go_enter Try.func10, Try.ntmps10
      go_wp2
      go_quiet (fail)
      go_wp2
      go_ret
      exact ⟨ret_int (by unfold Gf.mul; rw [if_neg (by omega)]), nq, rfl⟩

set_option maxHeartbeats 400000 in
theorem inv_any (b x : Nat) (hx : x < 256) (w : World) (hT : HasTab w b) :
    Calls Try.prog 11 #[.pointer (some ⟨b, 0, none⟩), .int .u8 (x : Int)] w fun e w' => e = .returned (.int .u8 (Gf.inv x : Nat)) ∧ ∃ n, w' = w.drewN n := by
  by_cases x0 : x = 0
  · subst x0
    go_enter Try.func11, Try.ntmps11
    go_wp2
    go_ret
    exact ⟨ret_int (by rw [Gf.inv_zero]; rfl), 0, rfl⟩
  · have h1 : ((x : Int) == 0) = false := by simp; omega
    have c1 := hT.lg x hx
    have l1 := Gf.lg_lt hx
    have c3 := hT.ex (255 - Gf.lg x) (by omega)
    have e1 : ((255 : Int) - (Gf.lg x : Nat)).toNat = 255 - Gf.lg x := by omega
    go_enter Try.func11, Try.ntmps11
    go_wp2
    go_quiet (fail)
    go_wp2
    go_ret
    exact ⟨ret_int (by unfold Gf.inv; rw [if_neg x0]), nq, rfl⟩

set_option maxHeartbeats 400000 in
theorem pow_neg (b x : Nat) (n : Int) (hn : n < 0) (w : World) :
    Calls Try.prog 12 #[.pointer (some ⟨b, 0, none⟩), .int .u8 (x : Int), .int .i64 n] w fun e w' => e = .returned (.int .u8 0) ∧ ∃ n, w' = w.drewN n := by
  have h1 : (n == 0) = false := by simp; omega
  go_enter Try.func12, Try.ntmps12
  go_wp2
  go_ret
  exact ⟨rfl, 0, rfl⟩

set_option maxHeartbeats 400000 in
theorem pow_any (b x n : Nat) (hx : x < 256) (w : World) (hT : HasTab w b) :
    Calls Try.prog 12 #[.pointer (some ⟨b, 0, none⟩), .int .u8 (x : Int), .int .i64 (n : Int)] w fun e w' => e = .returned (.int .u8 (Gf.pw x n : Nat)) ∧ ∃ n, w' = w.drewN n := by
  by_cases n0 : n = 0
  · subst n0
    go_enter Try.func12, Try.ntmps12
    go_wp2
    go_ret
    exact ⟨ret_int (by rw [Gf.pw_zero]; rfl), 0, rfl⟩
  · have h1 : ((n : Int) == 0) = false := by simp; omega
    by_cases x0 : x = 0
    · subst x0
      go_enter Try.func12, Try.ntmps12
      go_wp2
      go_ret
      exact ⟨ret_int (by rw [Gf.zero_pw n0]; rfl), 0, rfl⟩
    · have h2 : ((x : Int) == 0) = false := by simp; omega
      have c1 := hT.lg x hx
      have l1 := Gf.lg_lt hx
      obtain ⟨M, hM⟩ : ∃ M, M = Gf.lg x * (n % 255) := ⟨_, rfl⟩
      have hM1 : M < 65536 := by rw [hM]; have := Nat.mul_le_mul (Nat.le_of_lt l1) (Nat.le_of_lt (Nat.mod_lt n (by decide : 0 < 255))); omega
      have hw : wrap64 (((Gf.lg x : Nat) : Int) * ((n : Int) % 255)) = (M : Int) := by
        rw [show ((Gf.lg x : Nat) : Int) * ((n : Int) % 255) = (M : Int) from by rw [hM]; simp]
        unfold wrap64; omega
      have c3 := hT.ex (M % 255) (by omega)
      have HM : Hid (M = Gf.lg x * (n % 255)) := hM
      clear hM
      have h3 : decide ((n : Int) < 0) = false := by simp
      go_enter Try.func12, Try.ntmps12
      go_wp2
      go_quiet (fail)
      go_wp2
      go_ret
      exact ⟨ret_int (by unfold Gf.pw; rw [if_neg n0, if_neg x0, HM.out]), nq, rfl⟩

theorem HasTab.drewN {w : World} {b : Nat} (h : HasTab w b) (n : Nat) : HasTab (w.drewN n) b := by
  unfold HasTab at *; simpa using h

set_option maxHeartbeats 400000 in
theorem div_any (b x y : Nat) (hx : x < 256) (hy : y < 256) (w : World) (hT : HasTab w b) :
    Calls Try.prog 13 #[.pointer (some ⟨b, 0, none⟩), .int .u8 (x : Int), .int .u8 (y : Int)] w fun e w' => e = .returned (.int .u8 (Gf.mul x (Gf.inv y) : Nat)) ∧ ∃ n, w' = w.drewN n := by
  have hi := Gf.inv_lt y
  go_enter Try.func13, Try.ntmps13
  go_wp2_with fail
  refine (inv_any b y hy _ hT).mono ?_
  rintro e w1 ⟨rfl, n1, rfl⟩
  go_wp2_with fail
  refine (mul_any b x _ hx hi _ (hT.drewN n1)).mono ?_
  rintro e w2 ⟨rfl, n2, rfl⟩
  go_wp2_with fail
  go_ret
  exact ⟨rfl, n1 + n2, rfl⟩
end Go.Proofs.Ytadabbodjkdkdaa
