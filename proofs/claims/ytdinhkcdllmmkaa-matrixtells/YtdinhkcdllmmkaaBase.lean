/-
  THE CONTRACTS of Mul and Inv with their result as a letter; what stands behind 't := gf.Make()'.
-/
import Derived.Test.YtdinhkcdllmmkaaDotM
namespace Go.Proofs.Ytdinhkcdllmmkaa
open Go.RowKit

theorem mul_c (b x y : Nat) (X Y R : Int) (hX : X = (x : Int)) (hY : Y = (y : Int)) (hR : ((Gf.mul x y : Nat) : Int) = R) (hx : x < 256) (hy : y < 256) (w : World) (hT : HasTab w b) :
    Calls Try.prog 39 #[.pointer (some ⟨b, 0, none⟩), .int .u8 X, .int .u8 Y] w fun e w' => e = .returned (.int .u8 R) ∧ ∃ n, w' = w.drewN n := by
  subst hX hY hR; exact mul_any b x y hx hy w hT
theorem inv_c (b x : Nat) (X R : Int) (hX : X = (x : Int)) (hR : ((Gf.inv x : Nat) : Int) = R) (hx : x < 256) (w : World) (hT : HasTab w b) :
    Calls Try.prog 32 #[.pointer (some ⟨b, 0, none⟩), .int .u8 X] w fun e w' => e = .returned (.int .u8 R) ∧ ∃ n, w' = w.drewN n := by
  subst hX hR; exact inv_any b x hx w hT
theorem zc_size : zc.size = 766 := by simp [zc]
/-- The tables, under a name that nothing lays open. -/
def IsTab (T : Array Value) : Prop := T = tab
theorem IsTab.size {T : Array Value} (h : IsTab T) : T.size = 766 := by rw [show T = tab from h]; exact tab_size
theorem make_is (w : World) : Calls Try.prog 9 #[] w fun e w' => ∃ T, IsTab T ∧ e = .returned (.agg T) ∧ Below w.heap.size w w' :=
  (make_any w).mono fun _ _ h => ⟨tab, rfl, h.1, h.2⟩
/-- What 't := gf.Make()' does behind the call: the tables into a new block. -/
theorem store_tab {T : Array Value} (h : IsTab T) (w : World) : Sem.run Try.prog (storeCells ⟨w.heap.size, 0, none⟩ T.toList) (w.alloc (.cells zc 25)) = .ok () (w.alloc (.cells T 25)) := by
  rw [show T = tab from h, run_storeCells_row _ _ 25 zc tab (heap_alloc_last _ _) (by rw [tab_size, zc_size]) tab_one, World.setRow_alloc_new]
theorem hasTab_new {T : Array Value} (h : IsTab T) (w : World) : HasTab (w.alloc (.cells T 25)) w.heap.size := by
  rw [show T = tab from h]; exact heap_alloc_last w _
/-- Behind 't := gf.Make()': a world of which we know what is wanted. -/
theorem tab_world {T : Array Value} (h : IsTab T) {w w1 : World} (hb : Below w.heap.size w w1) : ∃ b W, b = w1.heap.size ∧ W = w1.alloc (.cells T 25) ∧ HasTab W b ∧ w.heap.size ≤ b ∧ W.heap.size = b + 1 ∧ Below w.heap.size w W :=
  ⟨_, _, rfl, rfl, hasTab_new h w1, hb.size, by simp, hb.alloc hb.size _⟩

theorem HasTab.alloc {w : World} {b : Nat} (h : HasTab w b) (o : Obj) : HasTab (w.alloc o) b := by
  have hlt : b < w.heap.size := (Array.getElem?_eq_some_iff.1 h).1
  exact (Below.heap_alloc w o b hlt).trans h
end Go.Proofs.Ytdinhkcdllmmkaa
