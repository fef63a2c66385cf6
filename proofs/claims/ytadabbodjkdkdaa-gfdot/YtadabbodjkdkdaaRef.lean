/-
  THE DOCUMENT's OWN ANSWERS (Mul, Inv, Pow of the reference): their contracts over the translated program: they return what the plain mathematics says.
-/
import Derived.Test.YtadabbodjkdkdaaCalls
namespace Go.Proofs.Ytadabbodjkdkdaa
open Go.RowKit

theorem and_one_i64 (a : Nat) (ha : a < 2 ^ 62) : bits .and .i64 (a : Int) 1 = ((a % 2 : Nat) : Int) := by
  show IntKind.i64.wrap ((BitVec.ofInt 64 (a : Int) &&& BitVec.ofInt 64 ((1 : Nat) : Int)).toNat : Int) = _
  rw [BitVec.toNat_and, ofInt_i64 a ha, ofInt_i64 1 (by decide), Nat.and_one_is_mod, IntKind.wrap_i64]
  omega

set_option maxHeartbeats 1000000 in
theorem rmul_any (a b : Nat) (ha : a < 256) (hb : b < 256) (w : World) :
    Calls Try.prog 16 #[.int .u8 (a : Int), .int .u8 (b : Int)] w fun e w' => e = .returned (.int .u8 (Gf.mul a b : Nat)) ∧ w' = w := by
  obtain ⟨R, hR⟩ : ∃ v, Gf.mul a b = v := ⟨_, rfl⟩
  have HR : Hid (Gf.mul a b = R) := hR
  rw [hR]
  clear hR
  go_enter Try.func16, Try.ntmps16
  go_wp2_with fail
  go_loop [5, 6, 7] (fun x y o => ∃ X Y O : Nat, X < 256 ∧ Y < 256 ∧ O < 256 ∧ x = .int .i64 (X : Int) ∧ y = .int .i64 (Y : Int) ∧ o = .int .i64 (O : Int) ∧ Hid (O ^^^ Gf.mul X Y = R)) (fun _ y _ => (intOf y).toNat)
  case atStart => exact ⟨a, b, 0, ha, hb, by omega, rfl, rfl, rfl, by show _ = _; rw [Nat.zero_xor]; exact HR.out⟩
  case round =>
    obtain ⟨X, Y, O, hX, hY, hO, rfl, rfl, rfl, HI⟩ := hrel
    by_cases y0 : Y = 0
    · subst y0
      go_wp2
      go_ret
      refine ⟨ret_int ?_, rfl⟩
      have := HI.out
      rw [Gf.mul_zero, Nat.xor_zero] at this
      omega
    · have hy1 := and_one_i64 Y (by omega)
      have hx1 := xor_i64 O X (by omega) (by omega)
      have hx2 : bits .xor .i64 ((X : Int) * 2) 285 = (((2 * X) ^^^ 285 : Nat) : Int) := by
        have h := xor_i64 (2 * X) 285 (by omega) (by omega)
        rw [show ((2 * X : Nat) : Int) = (X : Int) * 2 from by omega] at h
        exact h
      have hr := Gf.mul_round hX hY
      have HS : Hid (O ^^^ Gf.mul X Y = (if Y % 2 = 1 then O ^^^ X else O) ^^^ Gf.mul (Gf.dbl X) (Y / 2)) := by
        show _ = _
        rw [hr]; split
        · rw [Nat.xor_assoc]
        · rw [Nat.zero_xor]
      have hd := Gf.dbl_lt X hX
      have hox := Gf.xor_lt hO hX
      clear hr
      have hpos : (0 : Int) < (Y : Int) := by omega
      by_cases yo : Y % 2 = 1
      · have t1 : (((Y % 2 : Nat) : Int) == 1) = true := by simp; omega
        by_cases xh : 127 < X
        · have D : Hid (Gf.dbl X = (2 * X) ^^^ 285) := by show _ = _; unfold Gf.dbl; rw [if_pos (by omega)]
          go_wp2
          go_round
          case rel => exact ⟨Gf.dbl X, Y / 2, O ^^^ X, hd, by omega, hox, by rw [D.out], by go_num, rfl, by show _ = _; rw [← HI.out, HS.out, if_pos yo]⟩
          case measure => simp [intOf]; omega
        · have D : Hid (Gf.dbl X = 2 * X) := by show _ = _; unfold Gf.dbl; rw [if_neg (by omega)]
          go_wp2
          go_round
          case rel => exact ⟨Gf.dbl X, Y / 2, O ^^^ X, hd, by omega, hox, by rw [D.out]; go_num, by go_num, rfl, by show _ = _; rw [← HI.out, HS.out, if_pos yo]⟩
          case measure => simp [intOf]; omega
      · have t1 : (((Y % 2 : Nat) : Int) == 1) = false := by simp; omega
        by_cases xh : 127 < X
        · have D : Hid (Gf.dbl X = (2 * X) ^^^ 285) := by show _ = _; unfold Gf.dbl; rw [if_pos (by omega)]
          go_wp2
          go_round
          case rel => exact ⟨Gf.dbl X, Y / 2, O, hd, by omega, hO, by rw [D.out], by go_num, rfl, by show _ = _; rw [← HI.out, HS.out, if_neg yo]⟩
          case measure => simp [intOf]; omega
        · have D : Hid (Gf.dbl X = 2 * X) := by show _ = _; unfold Gf.dbl; rw [if_neg (by omega)]
          go_wp2
          go_round
          case rel => exact ⟨Gf.dbl X, Y / 2, O, hd, by omega, hO, by rw [D.out]; go_num, by go_num, rfl, by show _ = _; rw [← HI.out, HS.out, if_neg yo]⟩
          case measure => simp [intOf]; omega

set_option maxRecDepth 100000 in
set_option maxHeartbeats 1000000 in
theorem rinv_any (a : Nat) (ha : a < 256) (w : World) :
    Calls Try.prog 17 #[.int .u8 (a : Int)] w fun e w' => e = .returned (.int .u8 (Gf.inv a : Nat)) ∧ w' = w := by
  obtain ⟨R, hR⟩ : ∃ v, Gf.inv a = v := ⟨_, rfl⟩
  have HR : Hid (Gf.inv a = R) := hR
  rw [hR]
  clear hR
  go_enter Try.func17, Try.ntmps17
  go_wp2_with fail
  go_loop [3] (fun x => ∃ k : Nat, 1 ≤ k ∧ k ≤ 256 ∧ x = .int .i64 (k : Int) ∧ Hid (∀ j, 1 ≤ j → j < k → Gf.mul a j ≠ 1)) (fun x => 256 - (intOf x).toNat)
  case atStart => exact ⟨1, by omega, by omega, rfl, fun j h1 h2 => by omega⟩
  case round =>
    obtain ⟨k, k1, k2, rfl, HN⟩ := hrel
    by_cases hk : k < 256
    · obtain ⟨V, hV⟩ : ∃ v, Gf.mul a k = v := ⟨_, rfl⟩
      have HV : Hid (Gf.mul a k = V) := hV
      have eV : Hid (((Gf.mul a k : Nat) : Int) = (V : Int)) := by show _ = _; rw [hV]
      clear hV
      by_cases v1 : V = 1
      · have t1 : ((V : Int) == 1) = true := by simp; omega
        go_wp2_with fail
        refine (rmul_any a k ha hk _).mono ?_
        rintro e w2 ⟨rfl, rfl⟩
        rw [eV.out]
        go_wp2
        go_ret
        refine ⟨ret_int ?_, rfl⟩
        rw [← HR.out, ← Gf.inv_only ha hk (HV.out.trans v1)]
      · have t1 : ((V : Int) == 1) = false := by simp; omega
        go_wp2_with fail
        refine (rmul_any a k ha hk _).mono ?_
        rintro e w2 ⟨rfl, rfl⟩
        rw [eV.out]
        go_wp2
        go_round
        case rel => exact ⟨k + 1, by omega, by omega, by go_num, fun j h1 h2 => by
          by_cases hj : j = k
          · subst hj; rw [HV.out]; exact v1
          · exact HN.out j h1 (by omega)⟩
        case measure => simp [intOf]; omega
    · go_wp2
      go_ret
      refine ⟨ret_int ?_, rfl⟩
      have a0 : a = 0 := by
        apply Classical.byContradiction
        intro a0
        have hi := Gf.inv_lt a
        have hn := Gf.inv_ne a0
        exact HN.out (Gf.inv a) (by omega) (by omega) (Gf.mul_inv ha a0)
      subst a0
      rw [← HR.out, Gf.inv_zero]; rfl

set_option maxHeartbeats 1000000 in
theorem rpow_neg (a : Nat) (n : Int) (hn : n < 0) (w : World) :
    Calls Try.prog 18 #[.int .u8 (a : Int), .int .i64 n] w fun e w' => e = .returned (.int .u8 0) ∧ w' = w := by
  go_enter Try.func18, Try.ntmps18
  go_wp2
  go_ret
  exact ⟨rfl, rfl⟩

/-- What the slow power has gathered behind k rounds. -/
def rp (a : Nat) : Nat → Nat
  | 0 => 1
  | k + 1 => Gf.mul (rp a k) a
theorem rp_lt (a k : Nat) : rp a k < 256 := by
  cases k with
  | zero => show 1 < 256; decide
  | succ k => exact Gf.mul_lt _ _
theorem rp_eq {a : Nat} (ha : a < 256) (a0 : a ≠ 0) (k : Nat) : rp a k = Gf.ex (Gf.lg a * k) := by
  induction k with
  | zero => rfl
  | succ k ih => show Gf.mul (rp a k) a = _; rw [ih, Gf.pw_step ha a0]

set_option maxHeartbeats 1000000 in
theorem rpow_any (a n : Nat) (ha : a < 256) (w : World) :
    Calls Try.prog 18 #[.int .u8 (a : Int), .int .i64 (n : Int)] w fun e w' => e = .returned (.int .u8 (Gf.pw a n : Nat)) ∧ w' = w := by
  obtain ⟨R, hR⟩ : ∃ v, Gf.pw a n = v := ⟨_, rfl⟩
  have HR : Hid (Gf.pw a n = R) := hR
  rw [hR]
  clear hR
  have hn0 : decide ((n : Int) < 0) = false := by simp
  go_enter Try.func18, Try.ntmps18
  go_wp2_with fail
  go_loop [5, 6] (fun o i => ∃ k O : Nat, k ≤ n % 255 ∧ O < 256 ∧ i = .int .i64 (k : Int) ∧ o = .int .u8 (O : Int) ∧ Hid (O = rp a k)) (fun _ i => n % 255 - (intOf i).toNat)
  case atStart => exact ⟨0, 1, by omega, by omega, rfl, rfl, rfl⟩
  case round =>
    obtain ⟨k, O, hk, hO, rfl, rfl, HO⟩ := hrel
    by_cases hlt : k < n % 255
    · have ho := Gf.mul_lt O a
      go_wp2_with fail
      refine (rmul_any O a hO ha _).mono ?_
      rintro e w2 ⟨rfl, rfl⟩
      go_wp2
      go_round
      case rel => exact ⟨k + 1, Gf.mul O a, by omega, ho, by go_num, rfl, by show _ = _; rw [HO.out]; rfl⟩
      case measure => simp [intOf]; omega
    · have hk2 : Hid (k = n % 255) := by show _ = _; omega
      by_cases n0 : n = 0
      · have t0 : decide ((0 : Int) < (n : Int)) = false := by simp; omega
        have F : Hid (O = R) := by
          show _ = _
          rw [HO.out, hk2.out, ← HR.out, n0]; exact (Gf.pw_zero a).symm
        go_wp2
        go_ret
        exact ⟨ret_int (by rw [F.out]), rfl⟩
      · have t0 : decide ((0 : Int) < (n : Int)) = true := by simp; omega
        by_cases a0 : a = 0
        · have t1 : ((a : Int) == 0) = true := by simp; omega
          have F : Hid ((0 : Int) = (R : Int)) := by
            show _ = _
            rw [← HR.out, a0, Gf.zero_pw n0]; rfl
          go_wp2
          go_ret
          exact ⟨ret_int F.out, rfl⟩
        · have t1 : ((a : Int) == 0) = false := by simp; omega
          have F : Hid (O = R) := by
            show _ = _
            rw [HO.out, hk2.out, ← HR.out, rp_eq ha a0, Gf.pw_eq a0]
            apply Gf.ex_congr; simp [Nat.mul_mod]
          go_wp2
          go_ret
          exact ⟨ret_int (by rw [F.out]), rfl⟩
end Go.Proofs.Ytadabbodjkdkdaa
