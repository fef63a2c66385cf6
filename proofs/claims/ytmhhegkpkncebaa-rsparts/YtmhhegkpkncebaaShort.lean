/-
  SHORT of the laws; two strings held against each other; what []byte(s) is.
-/
import Derived.Test.YtmhhegkpkncebaaRuns
import Derived.Test.YtmhhegkpkncebaaWithinLo
namespace Go.Proofs.Ytmhhegkpkncebaa
open Go.RowKit

theorem short_any (s : ByteArray) (n : Nat) (X : Int) (hX : X = (n : Int)) (w : World) : Calls Try.prog 14 #[.string s, .int .i64 X] w fun e w' => ∃ v, e = .returned (.string v) ∧ v.size ≤ n ∧ w = w' := by
  subst hX
  by_cases h : n < s.size
  · have i1 : (n : Int) < (s.size : Int) := by omega
    have i2 : (n : Int) ≤ (s.size : Int) := by omega
    go_enter Try.func14, Try.ntmps14
    go_wp2_with fail
    go_ret
    refine ⟨_, rfl, ?_, rfl⟩
    rw [ByteArray.size_extract]; omega
  · have i1 : decide ((n : Int) < (s.size : Int)) = false := by simp; omega
    go_enter Try.func14, Try.ntmps14
    go_wp2_with fail
    go_ret
    exact ⟨_, rfl, by omega, rfl⟩
theorem within_l (n L H : Int) (lo hi : Nat) (hL : L = (lo : Int)) (hH : H = (hi : Int)) (hlh : lo ≤ hi) (hh : hi ≤ 2305843009213693000) (w : World) :
    Calls Try.prog 15 #[.int .i64 n, .int .i64 L, .int .i64 H] w fun e w' => (∃ k : Nat, lo ≤ k ∧ k ≤ hi ∧ e = .returned (.int .i64 (k : Int))) ∧ w = w' :=
  (within_lc n L H lo hi hL hH hlh hh w).mono fun _ _ h => ⟨h.1, h.2.symm⟩
theorem within_0 (n L H : Int) (h : Nat) (hL : L = 0) (hH : H = (h : Int)) (hh : h ≤ 4611686018427387000) (w : World) :
    Calls Try.prog 15 #[.int .i64 n, .int .i64 L, .int .i64 H] w fun e w' => (∃ k : Nat, k ≤ h ∧ e = .returned (.int .i64 (k : Int))) ∧ w = w' :=
  (within_c n L H h hL hH hh w).mono fun _ _ h => ⟨h.1, h.2.symm⟩
theorem str_empty {v : ByteArray} (h : 0 < v.size) : v.toList.isEmpty = false := by
  rw [ByteArray.toList_eq]
  rcases h2 : v.data.toList with _ | ⟨x, l⟩
  · exfalso
    have := size_len v
    rw [h2] at this
    simp at this
    omega
  · rfl
theorem str_beq (a b : ByteArray) : (a.toList == b.toList) = decide (a = b) := by
  by_cases h : a = b
  · subst h; simp
  · have : a.toList ≠ b.toList := fun e => h (by
      rw [ByteArray.toList_eq, ByteArray.toList_eq] at e
      exact ByteArray.ext (Array.toList_inj.1 e))
    simp [h, this]

/-- Bytes that lie in a block of the call's own and may be written. -/
def HasB (w : World) (G : Nat) (f : Nat → Nat) (L : Nat) : Prop := ∀ x, x < L → w.cell? ⟨G, x, none⟩ = some (.int .u8 ((f x : Nat) : Int)) ∧ w.frozen? ⟨G, x, none⟩ = false
theorem HasB.rowF {w : World} {G L : Nat} {f : Nat → Nat} (h : HasB w G f L) : RowF w (some ⟨G, 0, none⟩) f L :=
  Or.inr ⟨G, 0, rfl, fun i hi => by rw [Nat.zero_add]; exact (h i hi).1⟩
theorem HasB.up {w w' : World} {G L : Nat} {f : Nat → Nat} (h : HasB w G f L) (hb : Below w.heap.size w w') : HasB w' G f L := fun x hx => by
  have hlt := World.block_lt_of_cell? _ _ (h x hx).1
  have e := hb.block G hlt
  exact ⟨cell_later hb (h x hx).1, (World.frozen?_of_block e).trans (h x hx).2⟩
theorem HasB.set {w : World} {G L y v : Nat} {f : Nat → Nat} (h : HasB w G f L) (hy : y < L) : HasB (w.setCell ⟨G, y, none⟩ (.int .u8 ((v : Nat) : Int))) G (fun x => if x = y then v else f x) L := fun x hx => by
  refine ⟨?_, by rw [World.frozen?_setCell]; exact (h x hx).2⟩
  by_cases e : x = y
  · subst e; rw [World.cell?_setCell_same _ _ _ (h x hx).1]; simp only [if_true]
  · rw [World.cell?_setCell_other _ _ _ _ (fun e2 => e (by injection e2 with _ e3 _; exact e3.symm))]; simp only [if_neg e]; exact (h x hx).1
/-- []byte(s). -/
theorem conv_bytes (w : World) (s : ByteArray) : ∃ w' cap, (convert 9 54 (.string s)).run Try.prog w = .ok (.slice (some ⟨w.heap.size, 0, none⟩) s.size cap) w' ∧ HasB w' w.heap.size (bt s) s.size ∧ Below w.heap.size w w' := by
  have h := run_bytes_of_string (P := Try.prog) w 9 54 5 s under9 under32 under5
  refine ⟨_, _, h, fun x hx => ?_, (below_drewN (Below.refl _ _) 1).alloc (by show w.heap.size ≤ w.heap.size; exact Nat.le_refl _) _⟩
  have hx' : x < s.data.size := hx
  have hs : (bytesRow s (grownCap w s.size 0 5)).size ≥ s.data.size := by simp [bytesRow]
  refine ⟨?_, ?_⟩
  · have e := World.cell?_alloc_mark w.drew (bytesRow s (grownCap w s.size 0 5)) 5 ((bytesRow s (grownCap w s.size 0 5)).size, (bytesRow s (grownCap w s.size 0 5)).size + 1) x
    refine Eq.trans e ?_
    rw [bytesRow_at s _ x hx']
    unfold bt
    rw [List.getD_eq_getElem?_getD, List.getElem?_eq_getElem (by rw [size_len]; exact hx)]
    simp
  · have e := World.frozen?_alloc_mark w.drew (bytesRow s (grownCap w s.size 0 5)) 5 (bytesRow s (grownCap w s.size 0 5)).size ((bytesRow s (grownCap w s.size 0 5)).size + 1) x
    refine Eq.trans e ?_
    simp; omega
end Go.Proofs.Ytmhhegkpkncebaa
