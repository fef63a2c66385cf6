/-
  THE DOCUMENT's OWN ANSWERS (Mul, Inv of the reference): their contracts over the translated program: they return what the plain mathematics says.
-/
import Derived.Test.YtmhhegkpkncebaaMulInv
namespace Go.Proofs.Ytmhhegkpkncebaa
open Go.RowKit

theorem and_one_i64 (a : Nat) (ha : a < 2 ^ 62) : bits .and .i64 (a : Int) 1 = ((a % 2 : Nat) : Int) := by
  show IntKind.i64.wrap ((BitVec.ofInt 64 (a : Int) &&& BitVec.ofInt 64 ((1 : Nat) : Int)).toNat : Int) = _
  rw [BitVec.toNat_and, ofInt_i64 a ha, ofInt_i64 1 (by decide), Nat.and_one_is_mod, IntKind.wrap_i64]
  omega

set_option maxHeartbeats 1000000 in
theorem rmul_any (a b : Nat) (ha : a < 256) (hb : b < 256) (w : World) :
    Calls Try.prog 37 #[.int .u8 (a : Int), .int .u8 (b : Int)] w fun e w' => e = .returned (.int .u8 (Gf.mul a b : Nat)) ∧ w' = w := by
  obtain ⟨R, hR⟩ : ∃ v, Gf.mul a b = v := ⟨_, rfl⟩
  have HR : Hid (Gf.mul a b = R) := hR
  rw [hR]
  clear hR
  go_enter Try.func37, Try.ntmps37
  go_wp2_with fail
  go_loop [5, 6, 7] (fun x y o => ∃ X Y O : Nat, X < 256 ∧ Y < 256 ∧ O < 256 ∧ x = .int .i64 (X : Int) ∧ y = .int .i64 (Y : Int) ∧ o = .int .i64 (O : Int) ∧ Hid (O ^^^ Gf.mul X Y = R)) (fun _ y _ => (intOf y).toNat)
  case atStart => exact ⟨a, b, 0, ha, hb, by omega, rfl, rfl, rfl, by show _ = _; rw [Nat.zero_xor]; exact HR.out⟩
  case round =>
    obtain ⟨X, Y, O, hX, hY, hO, rfl, rfl, rfl, HI⟩ := hrel
    by_cases y0 : Y = 0
    · subst y0
      go_wp2
      go_ret
      refine ⟨ret_int ?_, rfl⟩
      have := HI.out
      rw [Gf.mul_zero, Nat.xor_zero] at this
      omega
    · have hy1 := and_one_i64 Y (by omega)
      have hx1 := xor_i64 O X (by omega) (by omega)
      have hx2 : bits .xor .i64 ((X : Int) * 2) 285 = (((2 * X) ^^^ 285 : Nat) : Int) := by
        have h := xor_i64 (2 * X) 285 (by omega) (by omega)
        rw [show ((2 * X : Nat) : Int) = (X : Int) * 2 from by omega] at h
        exact h
      have hr := Gf.mul_round hX hY
      have HS : Hid (O ^^^ Gf.mul X Y = (if Y % 2 = 1 then O ^^^ X else O) ^^^ Gf.mul (Gf.dbl X) (Y / 2)) := by
        show _ = _
        rw [hr]; split
        · rw [Nat.xor_assoc]
        · rw [Nat.zero_xor]
      have hd := Gf.dbl_lt X hX
      have hox := Gf.xor_lt hO hX
      clear hr
      have hpos : (0 : Int) < (Y : Int) := by omega
      by_cases yo : Y % 2 = 1
      · have t1 : (((Y % 2 : Nat) : Int) == 1) = true := by simp; omega
        by_cases xh : 127 < X
        · have D : Hid (Gf.dbl X = (2 * X) ^^^ 285) := by show _ = _; unfold Gf.dbl; rw [if_pos (by omega)]
          go_wp2
          go_round
          case rel => exact ⟨Gf.dbl X, Y / 2, O ^^^ X, hd, by omega, hox, by rw [D.out], by go_num, rfl, by show _ = _; rw [← HI.out, HS.out, if_pos yo]⟩
          case measure => simp [intOf]; omega
        · have D : Hid (Gf.dbl X = 2 * X) := by show _ = _; unfold Gf.dbl; rw [if_neg (by omega)]
          go_wp2
          go_round
          case rel => exact ⟨Gf.dbl X, Y / 2, O ^^^ X, hd, by omega, hox, by rw [D.out]; go_num, by go_num, rfl, by show _ = _; rw [← HI.out, HS.out, if_pos yo]⟩
          case measure => simp [intOf]; omega
      · have t1 : (((Y % 2 : Nat) : Int) == 1) = false := by simp; omega
        by_cases xh : 127 < X
        · have D : Hid (Gf.dbl X = (2 * X) ^^^ 285) := by show _ = _; unfold Gf.dbl; rw [if_pos (by omega)]
          go_wp2
          go_round
          case rel => exact ⟨Gf.dbl X, Y / 2, O, hd, by omega, hO, by rw [D.out], by go_num, rfl, by show _ = _; rw [← HI.out, HS.out, if_neg yo]⟩
          case measure => simp [intOf]; omega
        · have D : Hid (Gf.dbl X = 2 * X) := by show _ = _; unfold Gf.dbl; rw [if_neg (by omega)]
          go_wp2
          go_round
          case rel => exact ⟨Gf.dbl X, Y / 2, O, hd, by omega, hO, by rw [D.out]; go_num, by go_num, rfl, by show _ = _; rw [← HI.out, HS.out, if_neg yo]⟩
          case measure => simp [intOf]; omega

set_option maxRecDepth 100000 in
set_option maxHeartbeats 1000000 in
theorem rinv_any (a : Nat) (ha : a < 256) (w : World) :
    Calls Try.prog 36 #[.int .u8 (a : Int)] w fun e w' => e = .returned (.int .u8 (Gf.inv a : Nat)) ∧ w' = w := by
  obtain ⟨R, hR⟩ : ∃ v, Gf.inv a = v := ⟨_, rfl⟩
  have HR : Hid (Gf.inv a = R) := hR
  rw [hR]
  clear hR
  go_enter Try.func36, Try.ntmps36
  go_wp2_with fail
  go_loop [3] (fun x => ∃ k : Nat, 1 ≤ k ∧ k ≤ 256 ∧ x = .int .i64 (k : Int) ∧ Hid (∀ j, 1 ≤ j → j < k → Gf.mul a j ≠ 1)) (fun x => 256 - (intOf x).toNat)
  case atStart => exact ⟨1, by omega, by omega, rfl, fun j h1 h2 => by omega⟩
  case round =>
    obtain ⟨k, k1, k2, rfl, HN⟩ := hrel
    by_cases hk : k < 256
    · obtain ⟨V, hV⟩ : ∃ v, Gf.mul a k = v := ⟨_, rfl⟩
      have HV : Hid (Gf.mul a k = V) := hV
      have eV : Hid (((Gf.mul a k : Nat) : Int) = (V : Int)) := by show _ = _; rw [hV]
      clear hV
      by_cases v1 : V = 1
      · have t1 : ((V : Int) == 1) = true := by simp; omega
        go_wp2_with fail
        refine (rmul_any a k ha hk _).mono ?_
        rintro e w2 ⟨rfl, rfl⟩
        rw [eV.out]
        go_wp2
        go_ret
        refine ⟨ret_int ?_, rfl⟩
        rw [← HR.out, ← Gf.inv_only ha hk (HV.out.trans v1)]
      · have t1 : ((V : Int) == 1) = false := by simp; omega
        go_wp2_with fail
        refine (rmul_any a k ha hk _).mono ?_
        rintro e w2 ⟨rfl, rfl⟩
        rw [eV.out]
        go_wp2
        go_round
        case rel => exact ⟨k + 1, by omega, by omega, by go_num, fun j h1 h2 => by
          by_cases hj : j = k
          · subst hj; rw [HV.out]; exact v1
          · exact HN.out j h1 (by omega)⟩
        case measure => simp [intOf]; omega
    · go_wp2
      go_ret
      refine ⟨ret_int ?_, rfl⟩
      have a0 : a = 0 := by
        apply Classical.byContradiction
        intro a0
        have hi := Gf.inv_lt a
        have hn := Gf.inv_ne a0
        exact HN.out (Gf.inv a) (by omega) (by omega) (Gf.mul_inv ha a0)
      subst a0
      rw [← HR.out, Gf.inv_zero]; rfl
end Go.Proofs.Ytmhhegkpkncebaa
