/-
  DOT: its contract: the sum of the products, place by place, as far as both rows go.
-/
import Derived.Test.YtdinhkcdllmmkaaMulInv
namespace Go.Proofs.Ytdinhkcdllmmkaa
open Go.RowKit

namespace Gf
def dotN (f g : Nat → Nat) : Nat → Nat
  | 0 => 0
  | k + 1 => dotN f g k ^^^ mul (f k) (g k)
theorem dotN_lt (f g : Nat → Nat) (n : Nat) : dotN f g n < 256 := by
  induction n with
  | zero => show 0 < 256; decide
  | succ n ih => exact xor_lt ih (mul_lt _ _)
end Gf

/-- A row of bytes that is read: it is empty, or its places hold f's numbers. -/
def RowF (w : World) (a : Option Addr) (f : Nat → Nat) (n : Nat) : Prop :=
  n = 0 ∨ ∃ p off, a = some ⟨p, off, none⟩ ∧ ∀ i, i < n → w.cell? ⟨p, off + i, none⟩ = some (.int .u8 ((f i : Nat) : Int))

theorem xor_u8 (a b : Nat) (ha : a < 256) (hb : b < 256) : bits .xor .u8 (a : Int) (b : Int) = ((a ^^^ b : Nat) : Int) := u8_xor_nat a b ha hb

set_option maxHeartbeats 400000 in
theorem dot_any (b la lb ca cb : Nat) (a a' : Option Addr) (f g : Nat → Nat) (hf : ∀ i, f i < 256) (hg : ∀ i, g i < 256) (h1 : la ≤ 4611686018427387904) (h2 : lb ≤ 4611686018427387904) (w : World) (hT : HasTab w b)
    (ra : RowF w a f la) (rb : RowF w a' g lb) :
    Calls Try.prog 35 #[.pointer (some ⟨b, 0, none⟩), .slice a la ca, .slice a' lb cb] w fun e w' => e = .returned (.int .u8 (Gf.dotN f g (min la lb) : Nat)) ∧ ∃ n, w' = w.drewN n := by
  have hd := Gf.dotN_lt f g
  by_cases hlen : lb < la
  all_goals
    go_enter Try.func35, Try.ntmps35
    go_wp2_with fail
    go_loopw [7, 14] (fun s i wr => ∃ k n S : Nat, k ≤ la ∧ k ≤ lb ∧ i = .int .i64 (k : Nat) ∧ s = .int .u8 (S : Nat) ∧ Hid (S = Gf.dotN f g k) ∧ Hid (wr = w.drewN n)) (fun _ i _ => la - (intOf i).toNat)
    case atStart => exact ⟨0, 0, 0, by omega, by omega, rfl, rfl, rfl, rfl⟩
    case round =>
      obtain ⟨k, n, S, k1, k2, rfl, rfl, HS, HW⟩ := hrel
      by_cases hlt : k < la ∧ k < lb
      · obtain ⟨l1, l2⟩ := hlt
        have hS : S < 256 := by rw [HS.out]; exact hd k
        rcases ra with r0 | ⟨p, off, rfl, ra⟩
        · exfalso; omega
        rcases rb with r0 | ⟨p', off', rfl, rb⟩
        · exfalso; omega
        have c1 : wr.cell? ⟨p, off + k, none⟩ = some (.int .u8 ((f k : Nat) : Int)) := (by rw [HW.out]; exact ra k l1)
        have c2 : wr.cell? ⟨p', off' + k, none⟩ = some (.int .u8 ((g k : Nat) : Int)) := (by rw [HW.out]; exact rb k l2)
        have hT' : HasTab wr b := by rw [HW.out]; exact hT.drewN n
        have x1 := hf k
        have x2 := hg k
        have x3 := Gf.mul_lt (f k) (g k)
        have hx := xor_u8 S (Gf.mul (f k) (g k)) hS x3
        clear ra rb hf hg hd hT
        go_wp2
        go_quiet ((go_at_call 39; exact Calls.quiet_of (mul_any b _ _ x1 x2 _ (hT'.drewN _))))
        go_wp2
        go_roundw
        case rel => exact ⟨k + 1, n + nq, S ^^^ Gf.mul (f k) (g k), by omega, by omega, by go_num, rfl, by rw [HS.out]; rfl, by rw [HW.out]; show _ = _; rw [World.drewN_drewN]⟩
        case measure => simp [intOf]; omega
      · go_wp2
        go_ret
        refine ⟨ret_int ?_, n, HW.out⟩
        rw [HS.out]; congr 2; omega
end Go.Proofs.Ytdinhkcdllmmkaa
