/-
  WIDENED and RANK of the program: their contracts.
-/
import Derived.Test.YtmhhegkpkncebaaReduce
import Derived.Test.YtmhhegkpkncebaaRight2
namespace Go.Proofs.Ytmhhegkpkncebaa
open Go.RowKit

/-- Rows that lie below D stay while nothing below D turns. -/
theorem Grid.keep {w w' : World} {B g m n k D : Nat} {P : Nat → Nat} {A : Nat → Nat → Nat} (h : Grid w B g P A m n k) (hg : g < D) (hP : ∀ i, i < k → P i < D) (hb : Below D w w') : Grid w' B g P A m n k := by
  obtain ⟨C, h1, h2⟩ := h.top
  refine ⟨h.gB, ⟨C, (hb.block g hg).trans h1, h2⟩, fun i hi => ?_, h.inj⟩
  obtain ⟨h3, R, h4, h5⟩ := h.row i hi
  exact ⟨h3, R, (hb.block _ (hP i hi)).trans h4, h5⟩

/-- 'copy' of a row of bytes to the head of one of the rows. -/
theorem Grid.copy {w : World} {B g m n k i l c : Nat} {P : Nat → Nat} {A : Nat → Nat → Nat} {a : Option Addr} {f : Nat → Nat} (h : Grid w B g P A m n k) (hi : i < k) (ra : RowF w a f l) (h1 : 1 ≤ l) (hl : l ≤ n) :
    ∃ w4, (Builtin.copy_ #[54, 54] 3 #[.slice (some ⟨P i, 0, none⟩) n n, .slice a l c]).run Try.prog w = .ok (goInt l) w4 ∧ Grid w4 B g P (fun x j => if x = i ∧ j < l then f j else A x j) m n k ∧ Below B w w4 := by
  obtain ⟨hB, R, h4, h5, h6⟩ := h.row i hi
  obtain ⟨ad, rfl, hsrc⟩ := ra.src (by rw [cellsOf_length]; omega)
  have hr := run_copy_row (P := Try.prog) w 54 54 3 5 (P i) 0 n n ad l c R 5 (cellsOf f l) under32 size5info h4 (by rw [cellsOf_length]; exact (Nat.min_eq_left hl).symm) hsrc (by rw [cellsOf_length]; omega) (cellsOf_one f l)
  rw [cellsOf_length] at hr
  refine ⟨_, hr, ⟨h.gB, ?_, fun x hx => ?_, h.inj⟩, below_setRow (Below.refl _ _) hB _⟩
  · obtain ⟨C, c1, c2⟩ := h.top
    exact ⟨C, by rw [setRow_other _ _ _ _ (h.gP hi).symm]; exact c1, c2⟩
  · obtain ⟨h7, R', h8, h9, h10⟩ := h.row x hx
    refine ⟨h7, ?_⟩
    by_cases e : x = i
    · subst e
      rw [h4] at h8
      injection h8 with h8; injection h8 with e1 _ _
      subst e1
      refine ⟨_, setRow_heap w (P x) R _ 5 (0, 0) h4, ?_, fun j hj => ?_⟩
      · simp [cellsOf_length, h5]; omega
      · simp only [List.take_zero, List.nil_append, List.getElem?_toArray]
        by_cases hjl : j < l
        · rw [List.getElem?_append_left (by rw [cellsOf_length]; exact hjl), if_pos ⟨trivial, hjl⟩]
          exact cellsOf_at f l j hjl
        · rw [List.getElem?_append_right (by rw [cellsOf_length]; omega), cellsOf_length, if_neg (fun h => hjl h.2), List.getElem?_drop, show 0 + l + (j - l) = j by omega]
          have := h10 j hj
          simpa using this
    · refine ⟨R', by rw [setRow_other _ _ _ _ (fun e2 => e (h.inj x i hx hi e2))]; exact h8, h9, fun j hj => ?_⟩
      rw [if_neg (fun h => e h.1)]; exact h10 j hj

/-- The rows with noughts behind them. -/
def wideA (A : Nat → Nat → Nat) (n : Nat) : Nat → Nat → Nat := fun i j => if j < n then A i j else 0
theorem wideA_B8 {A : Nat → Nat → Nat} (h : Gf.B8 A) (n : Nat) : Gf.B8 (wideA A n) := by
  intro i j; unfold wideA; split
  · exact h _ _
  · decide

theorem MatF.at' {w : World} {a : Option Addr} {A : Nat → Nat → Nat} {m n : Nat} (h : MatF w a A m n) (hm : 1 ≤ m) : ∃ p off, a = some ⟨p, off, none⟩ ∧ ∀ i, i < m → ∃ ra rc, w.cell? ⟨p, off + i, none⟩ = some (.slice ra n rc) ∧ n ≤ rc ∧ RowF w ra (A i) n := by
  rcases h with h | h
  · exfalso; omega
  · exact h

set_option maxHeartbeats 1000000 in
set_option maxRecDepth 100000 in
theorem widened_any (a : Option Addr) (m n c d : Nat) (D : Int) (A : Nat → Nat → Nat) (hD : D = (d : Int)) (hm1 : 1 ≤ m) (hm : m ≤ 64) (hn1 : 1 ≤ n) (hn : n ≤ d) (hd : d ≤ 64) (w : World) (ra : MatF w a A m n) :
    Calls Try.prog 57 #[.slice a m c, .int .i64 D] w fun e w' => ∃ g P, e = .returned (.slice (some ⟨g, 0, none⟩) m m) ∧ Grid w' w.heap.size g P (wideA A n) m d m ∧ Below w.heap.size w w' := by
  subst hD
  obtain ⟨p, o, rfl, q1⟩ := ra.at' hm1
  have Q1 : Hid (∀ i, i < m → ∃ ra rc, w.cell? ⟨p, o + i, none⟩ = some (.slice ra n rc) ∧ n ≤ rc ∧ RowF w ra (A i) n) := q1
  clear q1 ra
  go_enter Try.func57, Try.ntmps57
  go_wp2_with fail
  refine (zeros_any m d _ _ rfl rfl (by omega) (by omega) _).mono ?_
  rintro e w1 ⟨g, P, rfl, G1, B1⟩
  have G0 : Hid (Grid w1 w.heap.size g P (fun x j => if x < 0 then wideA A n x j else 0) m d m) := G1.congr (fun i _ j _ => by simp)
  have HB1 : Hid (Below w.heap.size w w1) := B1
  clear G1 B1
  go_wp2_with fail
  go_loopw [14] (fun x wr => ∃ k : Nat, k ≤ m ∧ x = .int .i64 (k : Int) ∧ Hid (Grid wr w.heap.size g P (fun x j => if x < k then wideA A n x j else 0) m d m) ∧ Hid (Below w.heap.size w wr)) (fun x _ => m - (intOf x).toNat)
  case atStart => exact ⟨0, by omega, rfl, G0, HB1⟩
  case round =>
    obtain ⟨k, hk, rfl, HG, HB⟩ := hrel
    clear G0 HB1
    by_cases hlt : k < m
    · have hi1 : (k : Int) < (m : Int) := by omega
      obtain ⟨ra, rc, h1, _, h3⟩ := Q1.out k hlt
      have c1 : wr.cell? ⟨p, o + k, none⟩ = some (.slice ra n rc) := cell_later HB.out h1
      have c2 := HG.out.tcell hlt
      obtain ⟨w4, hrun, G4, B4⟩ := HG.out.copy (c := rc) hlt (h3.below HB.out) hn1 hn
      have G5 : Hid (Grid w4 w.heap.size g P (fun x j => if x < k + 1 then wideA A n x j else 0) m d m) := G4.congr (fun x _ j _ => by
        show (if x = k ∧ j < n then A k j else if x < k then wideA A n x j else 0) = if x < k + 1 then wideA A n x j else 0
        by_cases e : x = k
        · by_cases e2 : j < n
          · rw [if_pos ⟨e, e2⟩, if_pos (by omega), e]; unfold wideA; rw [if_pos e2]
          · rw [if_neg (fun h => e2 h.2), if_neg (by omega), if_pos (by omega)]; unfold wideA; rw [if_neg e2]
        · rw [if_neg (fun h => e h.1)]
          by_cases e3 : x < k
          · rw [if_pos e3, if_pos (by omega)]
          · rw [if_neg e3, if_neg (by omega)])
      have B5 : Hid (Below w.heap.size w w4) := HB.out.trans B4
      clear HG HB G4 B4 h1 h3
      go_wp2_with fail
      exact ⟨⟨k + 1, by omega, by go_num, G5, B5⟩, by simp [intOf]; omega⟩
    · have hkm : k = m := by omega
      subst hkm
      have i1 : decide ((k : Int) < (k : Int)) = false := by simp
      go_wp2_with fail
      go_ret
      exact ⟨g, P, rfl, HG.out.congr (fun x hx j _ => by rw [if_pos hx]), HB.out⟩

end Go.Proofs.Ytmhhegkpkncebaa
