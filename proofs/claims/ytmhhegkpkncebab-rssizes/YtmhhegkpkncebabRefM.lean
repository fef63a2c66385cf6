/-
  THE DOCUMENT's OWN ANSWERS (Mul, Inv of the reference): their contracts over the translated program: they return what the plain mathematics says.
-/
import Derived.Test.YtmhhegkpkncebabMulInv
namespace Go.Proofs.Ytmhhegkpkncebab
open Go.RowKit

theorem and_one_i64 (a : Nat) (ha : a < 2 ^ 62) : bits .and .i64 (a : Int) 1 = ((a % 2 : Nat) : Int) := by
  show IntKind.i64.wrap ((BitVec.ofInt 64 (a : Int) &&& BitVec.ofInt 64 ((1 : Nat) : Int)).toNat : Int) = _
  rw [BitVec.toNat_and, ofInt_i64 a ha, ofInt_i64 1 (by decide), Nat.and_one_is_mod, IntKind.wrap_i64]
  omega

end Go.Proofs.Ytmhhegkpkncebab
