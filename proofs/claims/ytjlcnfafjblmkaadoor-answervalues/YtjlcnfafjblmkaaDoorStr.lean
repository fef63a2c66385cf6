/-
  STRINGS BY THEIR BYTES.
-/
import Derived.Test.YtjlcnfafjblmkaaDoorRows
import Derived.WalkKit
import Derived.WalkSpells
import Derived.WalkLawsBesides
import Derived.Deep.WholeRow
import Derived.Laws.CopyOwn
import Derived.Deep.QuietTactic
import Derived.BigQuiet
import Derived.OpenShut
import Derived.Laws.BytesArg
import Derived.Deep.Upon
import Derived.Lib.Hide
namespace Go.Proofs.YtjlcnfafjblmkaaDoor
open Go.RowKit

abbrev B := List UInt8
theorem under9 : Tryd.prog.underlying 9 = some .string := by kernel_rfl
theorem under5 : Tryd.prog.underlying 5 = some (.int .u8) := by kernel_rfl
theorem size_len (s : ByteArray) : s.data.toList.length = s.size := Array.length_toList
/-- A string's bytes. -/
def L (s : ByteArray) : B := s.data.toList
theorem L_len (s : ByteArray) : (L s).length = s.size := Array.length_toList
/-- A string of these bytes. -/
def S (l : B) : ByteArray := ⟨l.toArray⟩
theorem L_S (l : B) : L (S l) = l := rfl
theorem S_L (s : ByteArray) : S (L s) = s := rfl
theorem S_inj {a b : B} (h : S a = S b) : a = b := congrArg L h
theorem L_inj {a b : ByteArray} (h : L a = L b) : a = b := congrArg S h
theorem S_size (l : B) : (S l).size = l.length := by unfold S ByteArray.size; simp
theorem str_beq (a b : ByteArray) : (a.toList == b.toList) = decide (a = b) := by
  by_cases h : a = b
  · subst h; simp
  · rw [decide_eq_false h]
    exact beq_eq_false_iff_ne.2 (fun e => h (by
      rw [ByteArray.toList_eq, ByteArray.toList_eq] at e
      exact ByteArray.ext (Array.toList_inj.1 e)))
theorem L_extract (s : ByteArray) (i j : Nat) : L (s.extract i j) = ((L s).take j).drop i := by
  unfold L
  rw [ByteArray.data_extract, Array.toList_extract, List.extract_eq_take_drop, List.drop_take]
theorem L_append (a b : ByteArray) : L (a ++ b) = L a ++ L b := by
  unfold L
  rw [ByteArray.data_append, Array.toList_append]
theorem S_append (a b : B) : S a ++ S b = S (a ++ b) := L_inj (by rw [L_append, L_S, L_S, L_S])
end Go.Proofs.YtjlcnfafjblmkaaDoor
