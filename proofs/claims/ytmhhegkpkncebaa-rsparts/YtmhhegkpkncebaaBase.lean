/-
  THE CONTRACTS of Mul and Inv with their result as a letter; what stands behind 't := gf.Make()'.
-/
import Derived.Test.YtmhhegkpkncebaaDotM
namespace Go.Proofs.Ytmhhegkpkncebaa
open Go.RowKit

theorem mul_c (b x y : Nat) (X Y R : Int) (hX : X = (x : Int)) (hY : Y = (y : Int)) (hR : ((Gf.mul x y : Nat) : Int) = R) (hx : x < 256) (hy : y < 256) (w : World) (hT : HasTab w b) :
    Calls Try.prog 45 #[.pointer (some ⟨b, 1, none⟩), .int .u8 X, .int .u8 Y] w fun e w' => e = .returned (.int .u8 R) ∧ ∃ n, w' = w.drewN n := by
  subst hX hY hR; exact mul_any b x y hx hy w hT
theorem inv_c (b x : Nat) (X R : Int) (hX : X = (x : Int)) (hR : ((Gf.inv x : Nat) : Int) = R) (hx : x < 256) (w : World) (hT : HasTab w b) :
    Calls Try.prog 43 #[.pointer (some ⟨b, 1, none⟩), .int .u8 X] w fun e w' => e = .returned (.int .u8 R) ∧ ∃ n, w' = w.drewN n := by
  subst hX hR; exact inv_any b x hx w hT
theorem zc_size : zc.size = 766 := by simp [zc]
/-- The tables, under a name that nothing lays open. -/
def IsTab (T : Array Value) : Prop := T = tab
theorem IsTab.size {T : Array Value} (h : IsTab T) : T.size = 766 := by rw [show T = tab from h]; exact tab_size
theorem make_is (w : World) : Calls Try.prog 27 #[] w fun e w' => ∃ T, IsTab T ∧ e = .returned (.agg T) ∧ Below w.heap.size w w' :=
  (make_any w).mono fun _ _ h => ⟨tab, rfl, h.1, h.2⟩
theorem HasTab.alloc {w : World} {b : Nat} (h : HasTab w b) (o : Obj) : HasTab (w.alloc o) b := by
  have hlt := h.lt
  obtain ⟨C, h1, h2⟩ := h
  exact ⟨C, (Below.heap_alloc w o b hlt).trans h1, h2⟩
end Go.Proofs.Ytmhhegkpkncebaa
