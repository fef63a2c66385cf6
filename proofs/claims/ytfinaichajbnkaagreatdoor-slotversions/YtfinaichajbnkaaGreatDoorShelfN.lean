/-
  The part of strconv.Itoa for small numbers, by its contract, laid at this program; Itoa of small numbers.
-/
import Derived.Shelf.Strconv.Itoa0
import Derived.Shelf.Strconv.Itoa1
import Derived.Test.YtfinaichajbnkaaGreatDoorMem
namespace Go.Proofs
open Go.Shelf
def Tryz.lays283_ren : Go.Shelf.Ren := ⟨fun | 283 => 40 | n => n, fun | 3 => 3 | 9 => 9 | 4 => 4 | n => n, fun | n => n⟩
theorem Tryz.lays283 : Go.Proofs.Lays.n283 Tryz.prog Tryz.lays283_ren := {
  mixed := by kernel_rfl
  f283 := Tryz.func40.trans (congrArg some (by kernel_rfl))
  t3 := Tryz.underlying3
  a3 := Tryz.isAgg3
  z3 := Tryz.sizeOf3
  v3 := Tryz.zeroValue3
  t4 := Tryz.underlying4
  a4 := Tryz.isAgg4
  z4 := Tryz.sizeOf4
  v4 := Tryz.zeroValue4
  t9 := Tryz.underlying9
  a9 := Tryz.isAgg9
  z9 := Tryz.sizeOf9
  v9 := Tryz.zeroValue9 }
open Go.Lib in
theorem Tryz.internal_strconv_small (i : Nat) (h : i < 100) (w : World) :
    Calls Tryz.prog 40 #[.int .i64 i] w fun e w' => e = .returned (.string ⟨(Lib.decDigits i).toArray⟩) ∧ w' = w := Any.internal_strconv_small Tryz.lays283 i h w
end Go.Proofs
namespace Go.Proofs.YtfinaichajbnkaaGreatDoor
open Go.RowKit

/-- A number's digits. -/
def its (v : Nat) : ByteArray := ⟨(Lib.decDigits v).toArray⟩
theorem its_size (v : Nat) (h : v ≤ 20) : (its v).size ≤ 2 := by
  show (Lib.decDigits v).toArray.size ≤ 2
  rw [List.size_toArray]
  by_cases h1 : v < 10
  · rw [Lib.decDigits_one h1]; exact (by decide : 1 ≤ 2)
  · rw [Lib.decDigits_two h1 (by omega)]; exact Nat.le_refl 2
set_option maxRecDepth 100000 in
theorem fint_any (v : Nat) (h : v < 100) (w : World) : Calls Tryz.prog 31 #[.int .i64 (v : Int), .int .i64 10] w fun e w' => e = .returned (.string (its v)) ∧ w = w' := by
  have c1 : decide (0 ≤ (v : Int)) = true := by simp
  have c2 : decide ((v : Int) < 100) = true := by simp; omega
  go_enter Tryz.func31, Tryz.ntmps31
  go_wp2_with fail
  refine (Tryz.internal_strconv_small v h _).mono ?_
  rintro e w1 ⟨rfl, rfl⟩
  go_wp2_with fail
  go_ret
  exact ⟨rfl, rfl⟩
set_option maxRecDepth 100000 in
theorem iitoa_any (v : Nat) (h : v < 100) (w : World) : Calls Tryz.prog 15 #[.int .i64 (v : Int)] w fun e w' => e = .returned (.string (its v)) ∧ w = w' := by
  go_enter Tryz.func15, Tryz.ntmps15
  go_wp2_with fail
  refine (fint_any v h _).mono ?_
  rintro e w1 ⟨rfl, rfl⟩
  go_wp2_with fail
  go_ret
  exact ⟨rfl, rfl⟩
set_option maxRecDepth 100000 in
theorem itoa_any (v : Nat) (h : v < 100) (w : World) : Calls Tryz.prog 8 #[.int .i64 (v : Int)] w fun e w' => e = .returned (.string (its v)) ∧ w = w' := by
  go_enter Tryz.func8, Tryz.ntmps8
  go_wp2_with fail
  refine (iitoa_any v h _).mono ?_
  rintro e w1 ⟨rfl, rfl⟩
  go_wp2_with fail
  go_ret
  exact ⟨rfl, rfl⟩
end Go.Proofs.YtfinaichajbnkaaGreatDoor
