/-
  THE TABLES: what stands at each place of them.
-/
import Derived.Test.YtmhhegkpkncebaaMake
namespace Go.Proofs.Ytmhhegkpkncebaa
open Go.RowKit

theorem arr_at (k : Nat) (hk : k ≤ 510) : (∀ i, i < 510 → (arr k)[i]? = some (.int .u8 (((if i < k then Gf.ex i else 0 : Nat)) : Int))) ∧
    (∀ x, x < 256 → (arr k)[510 + x]? = some (.int .u8 (((if x ≠ 0 ∧ Gf.lg x < k then Gf.lg x else 0 : Nat)) : Int))) := by
  induction k with
  | zero =>
    refine ⟨fun i hi => ?_, fun x hx => ?_⟩
    · show (Array.replicate 766 (Value.int .u8 0))[i]? = _
      rw [Array.getElem?_replicate, if_pos (by omega)]; rfl
    · show (Array.replicate 766 (Value.int .u8 0))[510 + x]? = _
      rw [Array.getElem?_replicate, if_pos (by omega), if_neg (by omega)]; rfl
  | succ k ih =>
    obtain ⟨h1, h2⟩ := ih (by omega)
    have hs := arr_size k
    have hx := Gf.ex_lt k
    have h0 := Gf.ex_pos k
    refine ⟨fun i hi => ?_, fun x hx' => ?_⟩
    · by_cases hik : i = k
      · subst hik
        unfold arr; split
        · rw [Array.getElem?_setIfInBounds_ne (by omega), Array.getElem?_setIfInBounds_self_of_lt (by omega), if_pos (by omega)]
        · rw [Array.getElem?_setIfInBounds_self_of_lt (by omega), if_pos (by omega)]
      · have e : (if i < k + 1 then Gf.ex i else 0) = (if i < k then Gf.ex i else 0) := by
          by_cases h : i < k
          · rw [if_pos h, if_pos (by omega)]
          · rw [if_neg h, if_neg (by omega)]
        rw [e]
        unfold arr; split
        · rw [Array.getElem?_setIfInBounds_ne (by omega), Array.getElem?_setIfInBounds_ne (by omega)]; exact h1 i hi
        · rw [Array.getElem?_setIfInBounds_ne (by omega)]; exact h1 i hi
    · by_cases hkk : k < 255
      · by_cases hex : x = Gf.ex k
        · have hl : Gf.lg x = k := by rw [hex, Gf.lg_ex]; omega
          have e : (if x ≠ 0 ∧ Gf.lg x < k + 1 then Gf.lg x else 0) = k := by rw [hl, if_pos ⟨by omega, by omega⟩]
          rw [e, hex]
          unfold arr; rw [if_pos hkk]
          rw [Array.getElem?_setIfInBounds_self_of_lt (by simp; omega)]
        · have e : (if x ≠ 0 ∧ Gf.lg x < k + 1 then Gf.lg x else 0) = (if x ≠ 0 ∧ Gf.lg x < k then Gf.lg x else 0) := by
            by_cases x0 : x = 0
            · simp [x0]
            · have hne : Gf.lg x ≠ k := fun h => hex (by rw [← h, Gf.ex_lg hx' x0])
              by_cases h : Gf.lg x < k
              · rw [if_pos ⟨x0, (by omega : Gf.lg x < k + 1)⟩, if_pos ⟨x0, h⟩]
              · rw [if_neg (by omega), if_neg (by omega)]
          rw [e]
          unfold arr; rw [if_pos hkk]
          rw [Array.getElem?_setIfInBounds_ne (by omega), Array.getElem?_setIfInBounds_ne (by omega)]; exact h2 x hx'
      · have hl := Gf.lg_lt hx'
        have e : (if x ≠ 0 ∧ Gf.lg x < k + 1 then Gf.lg x else 0) = (if x ≠ 0 ∧ Gf.lg x < k then Gf.lg x else 0) := by
          by_cases x0 : x = 0
          · simp [x0]
          · rw [if_pos ⟨x0, by omega⟩, if_pos ⟨x0, by omega⟩]
        rw [e]
        unfold arr; rw [if_neg hkk]
        rw [Array.getElem?_setIfInBounds_ne (by omega)]; exact h2 x hx'

theorem tab_ex (i : Nat) (h : i < 510) : tab[i]? = some (.int .u8 ((Gf.ex i : Nat) : Int)) := by
  have := (arr_at 510 (Nat.le_refl _)).1 i h
  rw [if_pos h] at this; exact this
theorem tab_lg (x : Nat) (h : x < 256) : tab[510 + x]? = some (.int .u8 ((Gf.lg x : Nat) : Int)) := by
  have := (arr_at 510 (Nat.le_refl _)).2 x h
  have hl := Gf.lg_lt h
  by_cases x0 : x = 0
  · subst x0; rw [Gf.lg_zero]; rw [if_neg (by omega)] at this; exact this
  · rw [if_pos ⟨x0, by omega⟩] at this; exact this

/-- The tables lie in block b, behind its first cell: in a code of the program's own. -/
def HasTab (w : World) (b : Nat) : Prop := ∃ C, w.heap[b]? = some (.cells C 63 (0, 0)) ∧ (∀ i, i < 510 → C[1 + i]? = some (.int .u8 ((Gf.ex i : Nat) : Int))) ∧ (∀ x, x < 256 → C[511 + x]? = some (.int .u8 ((Gf.lg x : Nat) : Int)))
theorem HasTab.ex {w : World} {b : Nat} (h : HasTab w b) (i : Nat) (hi : i < 510) : w.cell? ⟨b, 1 + i, none⟩ = some (.int .u8 ((Gf.ex i : Nat) : Int)) := by
  obtain ⟨C, h1, h2, _⟩ := h
  rw [cell_of_row w b (1 + i) C 63 (0, 0) h1]; exact h2 i hi
theorem HasTab.lg {w : World} {b : Nat} (h : HasTab w b) (x : Nat) (hx : x < 256) : w.cell? ⟨b, 511 + x, none⟩ = some (.int .u8 ((Gf.lg x : Nat) : Int)) := by
  obtain ⟨C, h1, _, h2⟩ := h
  rw [cell_of_row w b (511 + x) C 63 (0, 0) h1]; exact h2 x hx
theorem HasTab.below {w w' : World} {b B : Nat} (h : HasTab w b) (hb : Below B w w') (hlt : b < B) : HasTab w' b := by
  obtain ⟨C, h1, h2⟩ := h
  exact ⟨C, (hb.block b hlt).trans h1, h2⟩
theorem HasTab.lt {w : World} {b : Nat} (h : HasTab w b) : b < w.heap.size := by
  obtain ⟨C, h1, _⟩ := h
  exact (Array.getElem?_eq_some_iff.1 h1).1
end Go.Proofs.Ytmhhegkpkncebaa
