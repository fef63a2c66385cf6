/-
  CutPrefix of a minus, whole, signed, own, verbOf, short.
-/
import Derived.Test.YtedbklipbfbmoaaDoorStr
import Derived.Test.YtedbklipbfbmoaaDoorShelf
namespace Go.Proofs.YtedbklipbfbmoaaDoor
open Go.RowKit

theorem whole_any (s : ByteArray) (most : Nat) (hm : most < 9223372036854775808) (w : World) :
    Calls Tryd.prog 50 #[.string s, .int .u64 (most : Int)] w fun e w' => e = .returned (.tuple #[.int .i64 (nv most (L s) : Int), .bool (nb most (L s))]) ∧ w = w' := by
  have hv := nv_le most (L s)
  have hc := number_any s most (by omega)
  obtain ⟨m, hme⟩ : ∃ m : Int, m = (most : Int) := ⟨_, rfl⟩
  obtain ⟨v, hve⟩ : ∃ v : Int, v = (nv most (L s) : Int) := ⟨_, rfl⟩
  obtain ⟨b, hb⟩ : ∃ b : Bool, b = nb most (L s) := ⟨_, rfl⟩
  have v0 : 0 ≤ v := by omega
  have v1 : v < 9223372036854775808 := by omega
  rw [← hme, ← hve, ← hb]
  simp only [← hme, ← hve, ← hb] at hc
  clear hme hve hb hv hm
  go_enter Tryd.func50, Tryd.ntmps50
  go_wp2_with fail
  refine (hc _).mono ?_
  rintro e w' ⟨rfl, rfl⟩
  go_wp2_with fail
  exact bodyPost_ret (v := .tuple #[.int .i64 v, .bool b]) (by simp [results, Tryd.results50, go_sem]) rfl ⟨rfl, rfl⟩
/-- A minus ahead, cut off. -/
theorem cut_yes (s : ByteArray) (r : B) (hr : L s = 45 :: r) (w : World) : Calls Tryd.prog 65 #[.string s, .string ⟨#[45]⟩] w fun e w' => e = .returned (.tuple #[.string (S r), .bool true]) ∧ w = w' := by
  refine (Tryd.strings_CutPrefix s ⟨#[45]⟩ w).mono ?_
  rintro e w' ⟨rfl, rfl⟩
  have e45 : (⟨#[45]⟩ : ByteArray).data.toList = [45] := rfl
  have : s.data.toList = 45 :: r := hr
  rw [e45, this]
  refine ⟨?_, rfl⟩
  simp [Lib.trimPrefix, Lib.hasPrefix, S]
theorem cut_no (s : ByteArray) (hr : ∀ r, L s ≠ 45 :: r) (w : World) : Calls Tryd.prog 65 #[.string s, .string ⟨#[45]⟩] w fun e w' => e = .returned (.tuple #[.string s, .bool false]) ∧ w = w' := by
  refine (Tryd.strings_CutPrefix s ⟨#[45]⟩ w).mono ?_
  rintro e w' ⟨rfl, rfl⟩
  have e45 : (⟨#[45]⟩ : ByteArray).data.toList = [45] := rfl
  rw [e45]
  refine ⟨?_, rfl⟩
  have hp : Lib.hasPrefix s.data.toList [45] = false := by
    unfold Lib.hasPrefix
    rw [Bool.eq_false_iff]
    intro hh
    rw [List.isPrefixOf_iff_prefix] at hh
    obtain ⟨r, hr'⟩ := hh
    exact hr r hr'.symm
  simp [Lib.trimPrefix, hp]
theorem signed_any (s : ByteArray) (most : Nat) (hm : most < 9223372036854775808) (w : World) :
    Calls Tryd.prog 51 #[.string s, .int .u64 (most : Int)] w fun e w' => e = .returned (.tuple #[.int .i64 (gv most (L s)), .bool (gb most (L s))]) ∧ w = w' := by
  by_cases hr : ∃ r, L s = 45 :: r
  · obtain ⟨r, hr⟩ := hr
    obtain ⟨eg1, eg2⟩ := sg_minus most r
    rw [hr, eg1, eg2]
    have HC := cut_yes s r hr
    have HW := whole_any (S r) most hm
    have hv := nv_le most r
    rw [L_S] at HW
    obtain ⟨m, hme⟩ : ∃ m : Int, m = (most : Int) := ⟨_, rfl⟩
    obtain ⟨v, hve⟩ : ∃ v : Int, v = (nv most r : Int) := ⟨_, rfl⟩
    obtain ⟨b, hb⟩ : ∃ b : Bool, b = nb most r := ⟨_, rfl⟩
    have v0 : 0 ≤ v := by omega
    have v1 : v < 9223372036854775808 := by omega
    have wr : wrap64 (-v) = -v := by unfold wrap64; omega
    rw [← hme, ← hve, ← hb]
    simp only [← hme, ← hve, ← hb] at HW
    clear hme hve hb hv hm eg1 eg2 hr
    go_enter Tryd.func51, Tryd.ntmps51
    go_wp2_with fail
    refine (HC _).mono ?_
    rintro e w' ⟨rfl, rfl⟩
    go_wp2_with fail
    refine (HW _).mono ?_
    rintro e w' ⟨rfl, rfl⟩
    go_wp2_with fail
    exact bodyPost_ret (v := .tuple #[.int .i64 (-v), .bool b]) (by simp [results, Tryd.results51, go_sem]) rfl ⟨rfl, rfl⟩
  · have hr' : ∀ r, L s ≠ 45 :: r := fun r h => hr ⟨r, h⟩
    obtain ⟨eg1, eg2⟩ := sg_plain most (L s) hr'
    rw [eg1, eg2]
    have HC := cut_no s hr'
    have HW := whole_any s most hm
    obtain ⟨m, hme⟩ : ∃ m : Int, m = (most : Int) := ⟨_, rfl⟩
    obtain ⟨v, hve⟩ : ∃ v : Int, v = (nv most (L s) : Int) := ⟨_, rfl⟩
    obtain ⟨b, hb⟩ : ∃ b : Bool, b = nb most (L s) := ⟨_, rfl⟩
    rw [← hme, ← hve, ← hb]
    simp only [← hme, ← hve, ← hb] at HW
    clear hme hve hb hm eg1 eg2 hr hr'
    go_enter Tryd.func51, Tryd.ntmps51
    go_wp2_with fail
    refine (HC _).mono ?_
    rintro e w' ⟨rfl, rfl⟩
    go_wp2_with fail
    refine (HW _).mono ?_
    rintro e w' ⟨rfl, rfl⟩
    go_wp2_with fail
    exact bodyPost_ret (v := .tuple #[.int .i64 v, .bool b]) (by simp [results, Tryd.results51, go_sem]) rfl ⟨rfl, rfl⟩
theorem own_any (s : ByteArray) (hs : s.size ≤ 140737488355328) (w : World) : Calls Tryd.prog 47 #[.string s] w fun e w' => e = .returned (.string s) ∧ Below w.heap.size w w' := by
  have hc := fun w => Tryd.stringslite_Clone s w (by omega)
  have h36 : ∀ w : World, Calls Tryd.prog 64 #[.string s] w fun e w' => e = .returned (.string s) ∧ Below w.heap.size w w' := fun w => by
    go_enter Tryd.func64, Tryd.ntmps64
    go_wp2_with fail
    refine (hc _).mono ?_
    rintro e w' ⟨rfl, b⟩
    go_wp2_with fail
    go_ret
    exact ⟨rfl, b⟩
  go_enter Tryd.func47, Tryd.ntmps47
  go_wp2_with fail
  refine (h36 _).mono ?_
  rintro e w' ⟨rfl, b⟩
  go_wp2_with fail
  go_ret
  exact ⟨rfl, b⟩
/-- No more than so many bytes. -/
def shr (s : B) : B := s.take 500
theorem shr_len (s : B) : (shr s).length ≤ 500 := by unfold shr; rw [List.length_take]; omega
/-- The table of the verbs' words lies in its variable. -/
def HasTab (w : World) : Prop := ∀ i x, tab[i]? = some x → w.cell? ⟨0, i, none⟩ = some (.string (S x))
theorem HasTab.below {w w' : World} (h : HasTab w) (b : Below w.heap.size w w') : HasTab w' := fun i x hx => by
  have := h i x hx
  exact (World.cell?_of_block (a := ⟨0, i, none⟩) (b.block 0 (World.block_lt_of_cell? _ _ this))).trans this
end Go.Proofs.YtedbklipbfbmoaaDoor
