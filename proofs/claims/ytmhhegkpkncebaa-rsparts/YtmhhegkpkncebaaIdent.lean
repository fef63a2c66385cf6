/-
  IDENTITY of the program: its contract.
-/
import Derived.Test.YtmhhegkpkncebaaGrid
import Derived.Test.YtmhhegkpkncebaaRight2
namespace Go.Proofs.Ytmhhegkpkncebaa
open Go.RowKit

theorem ident_none (n : Int) (h : n < 1 ∨ 12 < n) (w : World) :
    Calls Try.prog 42 #[.int .i64 n] w fun e w' => e = .returned (.slice none 0 0) ∧ w = w' := by
  go_enter Try.func42, Try.ntmps42
  go_wp2_with fail
  refine (fits_no n h _).mono ?_
  rintro e w2 ⟨rfl, rfl⟩
  go_wp2_with fail
  go_ret
  exact ⟨rfl, rfl⟩

/-- The identity's first k ones. -/
def idk (k : Nat) : Nat → Nat → Nat := fun i j => if i = j ∧ i < k then 1 else 0

set_option maxHeartbeats 1000000 in
set_option maxRecDepth 100000 in
theorem ident_any (n : Nat) (N : Int) (hN : N = (n : Int)) (hn1 : 1 ≤ n) (hn : n ≤ 12) (w : World) :
    Calls Try.prog 42 #[.int .i64 N] w fun e w' => ∃ g P, e = .returned (.slice (some ⟨g, 0, none⟩) n n) ∧ Grid w' w.heap.size g P Gf.idm n n n ∧ Below w.heap.size w w' := by
  subst hN
  go_enter Try.func42, Try.ntmps42
  go_wp2_with fail
  refine (fits_yes (n : Int) (by omega) (by omega) _).mono ?_
  rintro e w2 ⟨rfl, rfl⟩
  go_wp2_with fail
  refine (zeros_any n n _ _ rfl rfl (by omega) (by omega) _).mono ?_
  rintro e w1 ⟨g, P, rfl, G1, B1⟩
  have G0 : Hid (Grid w1 w.heap.size g P (idk 0) n n n) := G1.congr (fun i _ j _ => by unfold idk; rw [if_neg (by omega)])
  have HB1 : Hid (Below w.heap.size w w1) := B1
  clear G1 B1
  go_wp2_with fail
  go_loopw [13] (fun i wr => ∃ k : Nat, k ≤ n ∧ i = .int .i64 (k : Int) ∧ Hid (Grid wr w.heap.size g P (idk k) n n n) ∧ Hid (Below w.heap.size w wr)) (fun i _ => n - (intOf i).toNat)
  case atStart => exact ⟨0, by omega, rfl, G0, HB1⟩
  case round =>
    obtain ⟨k, hk, rfl, HG, HB⟩ := hrel
    clear G0 HB1
    by_cases hlt : k < n
    · have hi1 : (k : Int) < (n : Int) := by omega
      have c1 := HG.out.tcell hlt
      have c2 := HG.out.cell hlt hlt
      have c3 := HG.out.fz hlt k
      have G3 : Hid (Grid (wr.setCell ⟨P k, k, none⟩ (.int .u8 1)) w.heap.size g P (idk (k + 1)) n n n) := by
        have h := (HG.out.set (v := 1) hlt hlt).congr (A' := idk (k + 1)) (fun i _ j _ => by
          unfold upd idk
          by_cases e : i = k ∧ j = k
          · rw [if_pos e, if_pos (by omega)]
          · rw [if_neg e]
            by_cases e2 : i = j ∧ i < k
            · rw [if_pos e2, if_pos (by omega)]
            · rw [if_neg e2, if_neg (by omega)])
        exact h
      have B3 : Hid (Below w.heap.size w (wr.setCell ⟨P k, k, none⟩ (.int .u8 1))) := HB.out.setCell (HG.out.row k hlt).1 _
      clear HG HB
      go_wp2_with fail
      exact ⟨⟨k + 1, by omega, by go_num, G3, B3⟩, by simp [intOf]; omega⟩
    · have hkn : k = n := by omega
      subst hkn
      have i1 : decide ((k : Int) < (k : Int)) = false := by simp
      go_wp2_with fail
      go_ret
      exact ⟨g, P, rfl, HG.out.congr (fun i hi j _ => by
        unfold idk Gf.idm
        by_cases e : i = j
        · rw [if_pos e, if_pos (by omega)]
        · rw [if_neg e, if_neg (by omega)]), HB.out⟩
end Go.Proofs.Ytmhhegkpkncebaa
