/-
  verbOf: the verb that a word names.
-/
import Derived.Test.YtedbklipbfbmoaaDoorNum
import Derived.Deep.MidRow
namespace Go.Proofs.YtedbklipbfbmoaaDoor
open Go.RowKit

/-- A verb's word as a string. -/
def tt (i : Nat) : ByteArray := S (tab.getD i [])
theorem tab_at {i : Nat} (h : i < 18) : tab[i]? = some (tab.getD i []) := by
  rw [List.getD_eq_getElem?_getD, List.getElem?_eq_getElem (show i < tab.length from h)]; rfl
theorem HasTab.cell {w : World} (h : HasTab w) {i : Nat} (hi : i < 18) : w.cell? ⟨0, i, none⟩ = some (.string (tt i)) := h i _ (tab_at hi)
theorem tab_idx (T : Nat → ByteArray) : ∀ (j : Nat), j < 18 → ∀ w : World, (Instr.index 93 (.agg #[.string (T 0), .string (T 1), .string (T 2), .string (T 3), .string (T 4), .string (T 5), .string (T 6), .string (T 7), .string (T 8), .string (T 9), .string (T 10), .string (T 11), .string (T 12), .string (T 13), .string (T 14), .string (T 15), .string (T 16), .string (T 17)]) (.int .i64 (j : Int))).run Tryd.prog w = .ok (.string (T j)) w
  | 0, _, w => by kernel_rfl
  | 1, _, w => by kernel_rfl
  | 2, _, w => by kernel_rfl
  | 3, _, w => by kernel_rfl
  | 4, _, w => by kernel_rfl
  | 5, _, w => by kernel_rfl
  | 6, _, w => by kernel_rfl
  | 7, _, w => by kernel_rfl
  | 8, _, w => by kernel_rfl
  | 9, _, w => by kernel_rfl
  | 10, _, w => by kernel_rfl
  | 11, _, w => by kernel_rfl
  | 12, _, w => by kernel_rfl
  | 13, _, w => by kernel_rfl
  | 14, _, w => by kernel_rfl
  | 15, _, w => by kernel_rfl
  | 16, _, w => by kernel_rfl
  | 17, _, w => by kernel_rfl
  | n + 18, h, _ => absurd h (by omega)
def tabL : List Value := [.string (tt 0), .string (tt 1), .string (tt 2), .string (tt 3), .string (tt 4), .string (tt 5), .string (tt 6), .string (tt 7), .string (tt 8), .string (tt 9), .string (tt 10), .string (tt 11), .string (tt 12), .string (tt 13), .string (tt 14), .string (tt 15), .string (tt 16), .string (tt 17)]
theorem tabL_at : ∀ (j : Nat), j < 18 → tabL[j]? = some (.string (tt j))
  | 0, _ => rfl
  | 1, _ => rfl
  | 2, _ => rfl
  | 3, _ => rfl
  | 4, _ => rfl
  | 5, _ => rfl
  | 6, _ => rfl
  | 7, _ => rfl
  | 8, _ => rfl
  | 9, _ => rfl
  | 10, _ => rfl
  | 11, _ => rfl
  | 12, _ => rfl
  | 13, _ => rfl
  | 14, _ => rfl
  | 15, _ => rfl
  | 16, _ => rfl
  | 17, _ => rfl
  | n + 18, h => absurd h (by omega)
theorem HasTab.range {w : World} (h : HasTab w) : w.rangeAt 0 0 tabL := by
  intro j v hv
  have hj : j < 18 := (List.getElem?_eq_some_iff.1 hv).1
  rw [tabL_at j hj] at hv
  cases hv
  rw [Nat.zero_add]; exact h.cell hj
theorem vbAt_drop {l : B} {j : Nat} (hj : j < 18) (hne : tab.getD j [] ≠ l) : vbAt l j (tab.drop j) = vbAt l (j + 1) (tab.drop (j + 1)) := by
  have h : j < tab.length := hj
  rw [List.drop_eq_getElem_cons h, vbAt, if_neg]
  intro e
  apply hne
  rw [List.getD_eq_getElem?_getD, List.getElem?_eq_getElem h]; exact e
theorem vbAt_here {l : B} {j : Nat} (hj : j < 18) (hne : tab.getD j [] = l) : vbAt l j (tab.drop j) = j := by
  have h : j < tab.length := hj
  rw [List.drop_eq_getElem_cons h, vbAt, if_pos]
  rw [List.getD_eq_getElem?_getD, List.getElem?_eq_getElem h] at hne; exact hne
theorem vbAt_lt {l : B} : ∀ {t : List B} {i : Nat}, vbAt l i t < i + t.length + 1
  | [], i => by simp [vbAt]
  | x :: t, i => by
    rw [vbAt]
    split
    · simp; omega
    · have := vbAt_lt (l := l) (t := t) (i := i + 1); simp at this ⊢; omega
theorem vb_lt (l : B) : vb l < 18 := by
  have h0 : ∀ (t : List B) (i : Nat), vbAt l i t = 0 ∨ vbAt l i t < i + t.length := fun t => by
    induction t with
    | nil => intro i; left; rfl
    | cons x t ih =>
      intro i
      rw [vbAt]
      split
      · right; simp
      · rcases ih (i + 1) with h | h
        · left; exact h
        · right; simp; omega
  rcases h0 tab 0 with h | h
  · unfold vb; omega
  · exact h
set_option maxHeartbeats 1000000 in
set_option maxRecDepth 100000 in
theorem verb_any (s : ByteArray) (w : World) (h : HasTab w) : Calls Tryd.prog 30 #[.string s] w fun e w' => e = .returned (.int .i64 ((vb (L s) : Nat) : Int)) ∧ w = w' := by
  obtain ⟨cs, hcs⟩ : ∃ cs : List Value, cs = tabL := ⟨_, rfl⟩
  have hr : w.rangeAt 0 0 cs := by rw [hcs]; exact h.range
  have hl : cs.length = 18 := by rw [hcs]; rfl
  have TI : Hid (∀ j : Nat, j < 18 → ∀ w : World, (Instr.index 93 (.agg cs.toArray) (.int .i64 (j : Int))).run Tryd.prog w = .ok (.string (tt j)) w) := Lib.hid (by rw [hcs]; exact tab_idx tt)
  have HR0 := Lib.hid hr
  have HL := Lib.hid hl
  clear hcs hr hl
  clear h
  obtain ⟨N, hN⟩ : ∃ N, N = vb (L s) := ⟨_, rfl⟩
  rw [← hN]
  have HN := Lib.hid hN
  clear hN
  go_enter Tryd.func30, Tryd.ntmps30
  go_wp2_with (refine wpList_load_mid rfl 93 _ rfl 0 0 rfl cs _ HR0.out Tryd.underlying93 rfl (by rw [HL.out]; kernel_rfl) ?_)
  go_loopw [6] (fun i wr => ∃ j : Nat, j ≤ 18 ∧ i = .int .i64 (j : Int) ∧ Hid (vb (L s) = vbAt (L s) j (tab.drop j)) ∧ w = wr) (fun i _ => 18 - (intOf i).toNat)
  case atStart => exact ⟨0, by omega, rfl, Lib.hid rfl, rfl⟩
  case round =>
    obtain ⟨j, hj, rfl, HR, rfl⟩ := hrel
    by_cases hlt : j < 18
    · have hi1 : (j : Int) < 18 := by omega
      have ix := TI.out j hlt
      by_cases he : tab.getD j [] = L s
      · have eq : ((tt j).toList == s.toList) = true := by
          rw [str_beq]; simp only [decide_eq_true_eq]; unfold tt; rw [he]; exact S_L s
        have EN : Hid ((j : Int) = ((N : Nat) : Int)) := Lib.hid (by rw [HN.out, HR.out, vbAt_here hlt he])
        go_wp2_with fail
        go_ret
        exact ⟨by rw [← EN.out]; rfl, rfl⟩
      · have eq : ((tt j).toList == s.toList) = false := by
          rw [str_beq]; simp only [decide_eq_false_iff_not]; intro e; apply he
          have := congrArg L e; exact this
        go_wp2_with fail
        exact ⟨⟨j + 1, by omega, by go_num, Lib.hid (HR.out.trans (vbAt_drop hlt he)), trivial⟩, by simp [intOf]; omega⟩
    · have hi1 : decide ((j : Int) < 18) = false := by simp; omega
      have EN : Hid (N = 0) := Lib.hid (by rw [HN.out, HR.out, show j = 18 by omega]; rfl)
      go_wp2_with fail
      go_ret
      exact ⟨by rw [EN.out]; rfl, rfl⟩
end Go.Proofs.YtedbklipbfbmoaaDoor
