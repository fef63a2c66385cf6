/-
  MATRICES IN MEMORY: rows of one length behind a slice of slices; the law's own 'same'.
-/
import Derived.Test.YtdinhkcdllmmkaaBookM
namespace Go.Proofs.Ytdinhkcdllmmkaa
open Go.RowKit

/-- m rows of n bytes lie at a: row i holds A i's numbers. -/
def MatF (w : World) (a : Option Addr) (A : Nat → Nat → Nat) (m n : Nat) : Prop :=
  m = 0 ∨ ∃ p off, a = some ⟨p, off, none⟩ ∧ ∀ i, i < m → ∃ ra rc, w.cell? ⟨p, off + i, none⟩ = some (.slice ra n rc) ∧ n ≤ rc ∧ RowF w ra (A i) n
theorem MatF.below {w w' : World} {a : Option Addr} {A : Nat → Nat → Nat} {m n : Nat} (h : MatF w a A m n) (hb : Below w.heap.size w w') : MatF w' a A m n := by
  rcases h with h | ⟨p, off, e, hr⟩
  · exact Or.inl h
  · refine Or.inr ⟨p, off, e, fun i hi => ?_⟩
    obtain ⟨ra, rc, h1, h2, h3⟩ := hr i hi
    exact ⟨ra, rc, cell_later hb h1, h2, h3.below hb⟩
theorem RowF.drewN {w : World} {a : Option Addr} {f : Nat → Nat} {n : Nat} (h : RowF w a f n) (k : Nat) : RowF (w.drewN k) a f n := h

set_option maxHeartbeats 1000000 in
theorem same2_any (a a' : Option Addr) (m n c c' : Nat) (A A' : Nat → Nat → Nat) (hm : m ≤ 140737488351232) (hn : n ≤ 140737488351232) (hAA : ∀ i, i < m → ∀ j, j < n → A i j = A' i j) (w : World) (ra : MatF w a A m n) (rb : MatF w a' A' m n) :
    Calls Try.prog 11 #[.slice a m c, .slice a' m c'] w fun e w' => e = .returned (.bool true) ∧ ∃ k, w' = w.drewN k := by
  have ne : ((m : Int) != (m : Int)) = false := by simp
  go_enter Try.func11, Try.ntmps11
  go_wp2_with fail
  go_loopw [5] (fun i wr => ∃ j k : Nat, j ≤ m ∧ i = .int .i64 (j : Int) ∧ Hid (wr = w.drewN k)) (fun i _ => m - (intOf i).toNat)
  case atStart => exact ⟨0, 0, by omega, rfl, rfl⟩
  case round =>
    obtain ⟨j, k, hj, rfl, HW⟩ := hrel
    by_cases hlt : j < m
    · obtain ⟨p, o, rfl, q1⟩ : ∃ p off, a = some ⟨p, off, none⟩ ∧ ∀ i, i < m → ∃ ra rc, w.cell? ⟨p, off + i, none⟩ = some (.slice ra n rc) ∧ n ≤ rc ∧ RowF w ra (A i) n := by
        rcases ra with r | r
        · exfalso; omega
        · exact r
      obtain ⟨p', o', rfl, q2⟩ : ∃ p off, a' = some ⟨p, off, none⟩ ∧ ∀ i, i < m → ∃ ra rc, w.cell? ⟨p, off + i, none⟩ = some (.slice ra n rc) ∧ n ≤ rc ∧ RowF w ra (A' i) n := by
        rcases rb with r | r
        · exfalso; omega
        · exact r
      obtain ⟨x, xc, h1, _, h3⟩ := q1 j hlt
      obtain ⟨y, yc, h4, _, h6⟩ := q2 j hlt
      have c1 : wr.cell? ⟨p, o + j, none⟩ = some (.slice x n xc) := (by rw [HW.out]; exact h1)
      have c2 : wr.cell? ⟨p', o' + j, none⟩ = some (.slice y n yc) := (by rw [HW.out]; exact h4)
      have R1 : RowF wr x (A j) n := (by rw [HW.out]; exact h3)
      have R2 : RowF wr y (A' j) n := (by rw [HW.out]; exact h6)
      have hfg := hAA j hlt
      clear q1 q2 ra rb h1 h3 h4 h6 hAA
      have hi1 : (j : Int) < (m : Int) := by omega
      have HF : Hid (∀ i, i < n → A j i = A' j i) := hfg
      clear hfg
      go_wp2
      go_quiet ((go_at_call 31; exact Calls.quiet_of (same_any x y n xc yc (A j) (A' j) hn HF.out _ (R1.drewN _) (R2.drewN _))))
      go_wp2
      go_roundw
      case rel => exact ⟨j + 1, k + nq, by omega, by go_num, by show _ = _; rw [HW.out, World.drewN_drewN]⟩
      case measure => simp [intOf]; omega
    · go_wp2
      go_ret
      exact ⟨rfl, k, HW.out⟩
end Go.Proofs.Ytdinhkcdllmmkaa
