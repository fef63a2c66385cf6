/-
  DOT: its contract: the sum of the products, place by place, as far as both rows go.
-/
import Derived.Test.YtmhhegkpkncebaaMulInv
namespace Go.Proofs.Ytmhhegkpkncebaa
open Go.RowKit

namespace Gf
def dotN (f g : Nat → Nat) : Nat → Nat
  | 0 => 0
  | k + 1 => dotN f g k ^^^ mul (f k) (g k)
theorem dotN_lt (f g : Nat → Nat) (n : Nat) : dotN f g n < 256 := by
  induction n with
  | zero => show 0 < 256; decide
  | succ n ih => exact xor_lt ih (mul_lt _ _)
end Gf

/-- A row of bytes that is read: it is empty, or its places hold f's numbers. -/
def RowF (w : World) (a : Option Addr) (f : Nat → Nat) (n : Nat) : Prop :=
  n = 0 ∨ ∃ p off, a = some ⟨p, off, none⟩ ∧ ∀ i, i < n → w.cell? ⟨p, off + i, none⟩ = some (.int .u8 ((f i : Nat) : Int))

theorem xor_u8 (a b : Nat) (ha : a < 256) (hb : b < 256) : bits .xor .u8 (a : Int) (b : Int) = ((a ^^^ b : Nat) : Int) := u8_xor_nat a b ha hb

end Go.Proofs.Ytmhhegkpkncebaa
