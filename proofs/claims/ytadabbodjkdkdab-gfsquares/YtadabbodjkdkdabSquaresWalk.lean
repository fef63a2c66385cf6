/-
  The walk of the law GfSquares, over the contracts: squaring goes over sums; eight times it brings each byte back.
-/
import Derived.Test.YtadabbodjkdkdabRunsWalk
namespace Go.Proofs.Ytadabbodjkdkdab
open Go.RowKit

theorem end_runs {w W w2 : World} {n : Nat} (hB : Below w.heap.size w W) (hb2 : Below (W.drewN n).heap.size (W.drewN n) w2) : Below w.heap.size w w2 :=
  (below_drewN hB n).trans (hb2.mono (below_drewN hB n).size)

set_option maxHeartbeats 400000 in
theorem sq_any (b x : Nat) (X R : Int) (hX : X = (x : Int)) (hR : ((Gf.mul x x : Nat) : Int) = R) (hx : x < 256) (w : World) (hT : HasTab w b) :
    Calls Try.prog 5 #[.int .u8 X, .pointer (some ⟨b, 0, none⟩)] w fun e w' => e = .returned (.int .u8 R) ∧ ∃ n, w' = w.drewN n := by
  subst hX hR
  go_enter Try.func5, Try.ntmps5
  go_wp2_with fail
  refine (mul_any b x x hx hx _ hT).mono ?_
  rintro e w2 ⟨rfl, n1, rfl⟩
  go_wp2_with fail
  go_ret
  exact ⟨rfl, n1, rfl⟩

/-- k squares, one behind the other. -/
def sqN (x : Nat) : Nat → Nat
  | 0 => x
  | k + 1 => Gf.mul (sqN x k) (sqN x k)
theorem sqN_eight {x : Nat} (hx : x < 256) : sqN x 8 = x := Gf.sq_eight hx
theorem sqN_lt {x : Nat} (hx : x < 256) (k : Nat) : sqN x k < 256 := by
  cases k with
  | zero => exact hx
  | succ k => exact Gf.mul_lt _ _

set_option maxHeartbeats 1000000 in
theorem squares_any (x y : Nat) (hx : x < 256) (hy : y < 256) (w : World) :
    Calls Try.prog 3 #[.int .u8 (x : Int), .int .u8 (y : Int)] w fun e w' => e = .returned (.bool true) ∧ Below w.heap.size w w' := by
  have hz := zero25
  go_enter Try.func3, Try.ntmps3
  go_wp2_with fail
  refine (make_is w).mono ?_
  rintro e w1 ⟨T, hT, rfl, hb⟩
  have ht := hT.size
  have hst := store_tab hT w1
  go_wp2_with fail
  obtain ⟨b, W, eb, eW, hTab, hb1, hs, hB⟩ := tab_world hT hb
  rw [← eb, ← eW]
  clear hst ht hz eb eW hb hT
  go_loopw [7, 8] (fun c i wr => ∃ k n C : Nat, k ≤ 8 ∧ C < 256 ∧ i = .int .i64 (k : Int) ∧ c = .int .u8 (C : Int) ∧ Hid (C = sqN x k) ∧ Hid (wr = W.drewN n)) (fun _ i _ => 8 - (intOf i).toNat)
  case atStart => exact ⟨0, 0, x, by omega, hx, rfl, rfl, rfl, rfl⟩
  case round =>
    obtain ⟨k, n, C, hk, hC, rfl, rfl, HC, HW⟩ := hrel
    have hTr : HasTab wr b := by rw [HW.out]; exact hTab.drewN n
    by_cases hlt : k < 8
    · have lm := Gf.mul_lt C C
      go_wp2_with fail
      refine (sq_any b C _ _ rfl rfl hC _ hTr).mono ?_
      rintro e w2 ⟨rfl, n1, rfl⟩
      go_wp2
      go_roundw
      case rel => exact ⟨k + 1, n + n1, Gf.mul C C, by omega, lm, by go_num, rfl, by show _ = _; rw [HC.out]; rfl, by show _ = _; rw [HW.out, World.drewN_drewN]⟩
      case measure => simp [intOf]; omega
    · have hCx : C = x := by
        rw [HC.out, show k = 8 from by omega]; exact sqN_eight hx
      subst hCx
      obtain ⟨F, hF⟩ : ∃ v, C ^^^ y = v := ⟨_, rfl⟩
      obtain ⟨A, hA⟩ : ∃ v, Gf.mul C C = v := ⟨_, rfl⟩
      obtain ⟨B, hB'⟩ : ∃ v, Gf.mul y y = v := ⟨_, rfl⟩
      obtain ⟨S, hS⟩ : ∃ v, Gf.mul F F = v := ⟨_, rfl⟩
      have lF : F < 256 := by rw [← hF]; exact Gf.xor_lt hC hy
      have lA : A < 256 := by rw [← hA]; exact Gf.mul_lt _ _
      have lB : B < 256 := by rw [← hB']; exact Gf.mul_lt _ _
      have e1 : Hid (((Gf.mul F F : Nat) : Int) = (S : Int)) := by show _ = _; rw [hS]
      have e2 : Hid (((Gf.mul C C : Nat) : Int) = (A : Int)) := by show _ = _; rw [hA]
      have e3 : Hid (((Gf.mul y y : Nat) : Int) = (B : Int)) := by show _ = _; rw [hB']
      have x1 : bits .xor .u8 (C : Int) (y : Int) = (F : Int) := by rw [xor_u8 C y hC hy, hF]
      have x2 : bits .xor .u8 (A : Int) (B : Int) = (S : Int) := by rw [xor_u8 A B lA lB, ← hA, ← hB', ← Gf.sq_xor hC hy, hF, hS]
      have rB : Below w.heap.size w wr := by rw [HW.out]; exact below_drewN hB n
      clear hF hA hB' hS HC HW hB hTab
      go_wp2_with fail
      refine (sq_any b F _ _ rfl e1.out lF _ hTr).mono ?_
      rintro e w2 ⟨rfl, n1, rfl⟩
      go_wp2_with fail
      refine (sq_any b C _ _ rfl e2.out hC _ (hTr.drewN _)).mono ?_
      rintro e w2 ⟨rfl, n2, rfl⟩
      go_wp2_with fail
      refine (sq_any b y _ _ rfl e3.out hy _ (hTr.drewN _)).mono ?_
      rintro e w2 ⟨rfl, n3, rfl⟩
      go_wp2_with fail
      refine (runs_any _).mono ?_
      rintro e w2 ⟨rfl, hb2⟩
      go_wp2_with fail
      go_ret
      exact ⟨rfl, end_runs rB hb2⟩
end Go.Proofs.Ytadabbodjkdkdab
