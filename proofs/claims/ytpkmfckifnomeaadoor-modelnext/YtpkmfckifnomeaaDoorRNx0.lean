/-
  THE REFERENCE: say; blocks on their way.
-/
import Derived.Test.YtpkmfckifnomeaaDoorNext
import Derived.Test.YtpkmfckifnomeaaDoorRDig
import Derived.Test.YtpkmfckifnomeaaDoorRNum
namespace Go.Proofs.YtpkmfckifnomeaaDoor
open Go.RowKit

open Go.Lib (TabIs pow10Tab)
set_option maxRecDepth 100000 in
set_option maxHeartbeats 1000000 in
theorem say_any (k : Int) (w : World) : Calls Tryd.prog 43 #[.int .i64 k] w fun e w' => e = .returned (.agg (ab k).cs.toArray) ∧ Below w.heap.size w w' := by
  go_enter Tryd.func43, Tryd.ntmps43
  go_wp2_with fail
  refine bodyPost_ret (v := .agg #[.int .i64 k, .slice none 0 0, .bool false, .int .u64 0, .string ⟨#[]⟩, .int .i64 0, .int .i64 0, .int .i64 0, .int .i64 0]) (by simp [results, Tryd.results43]; go_simp) rfl ?_
  exact ⟨rfl, below_alloc _ _⟩
/-- Whichever one alone may come next. -/
theorem oneH {P : Program} {md : Region.Mode} {ops : Array Oper} {Q : Exit → Act → World → Prop} {S : World → Prop} {fuel i : Nat} {listed : Array Bool} {a : Act} {w : World} {op : Oper} (hr : Region.ready md ops listed = [i]) (hi : ops[i]? = some op)
    (h : ∀ K' : Act → World → Prop, (∀ a w, (S w ∧ wpAnyH P md ops Q S fuel (listed.setIfInBounds i true) a w) → K' a w) → if Region.wanted op (yielded ops a.tmps) = true then Oper.wp P op a w K' Q else K' (a.put op.dst undef) w) : wpAnyH P md ops Q S (fuel + 1) listed a w :=
  wpAnyH_all hr (by simp) (fun j hj => by
    obtain rfl : j = i := by simpa using hj
    exact wpOp_step hi h)
/-- The boxes, and the blocks of what is handed back, the entry's already written. -/
theorem r4 (w : World) (R E Z : Array Value) (X : List Value) (hZ : Z = zA.toArray) (hX : X.length = 5) :
    ((((w.alloc (.cells R 27)).alloc (.cells E 49)).alloc (.cells Z 32)).alloc (.cells X.toArray 49)).there (w.heap.size + 1 + 1) 0 9 ∧ ((((w.alloc (.cells R 27)).alloc (.cells E 49)).alloc (.cells Z 32)).alloc (.cells X.toArray 49)).there (w.heap.size + 1 + 1 + 1) 0 5 ∧ ((((w.alloc (.cells R 27)).alloc (.cells E 49)).alloc (.cells Z 32)).alloc (.cells X.toArray 49)).rangeAt (w.heap.size + 1 + 1 + 1) 0 X ∧ Below w.heap.size w ((((w.alloc (.cells R 27)).alloc (.cells E 49)).alloc (.cells Z 32)).alloc (.cells X.toArray 49)) := by
  subst hZ
  have a1 := there_new ((w.alloc (.cells R 27)).alloc (.cells E 49)) zA 32
  have a2 := there_new (((w.alloc (.cells R 27)).alloc (.cells E 49)).alloc (.cells zA.toArray 32)) X 49
  have a3 := range_new (((w.alloc (.cells R 27)).alloc (.cells E 49)).alloc (.cells zA.toArray 32)) X 49
  simp only [World.size_alloc] at a1 a2 a3
  rw [hX] at a2
  refine ⟨there_below a1 (below_alloc _ _), a2, a3, ?_⟩
  exact (below_alloc w _).trans (((below_alloc _ _).trans (((below_alloc _ _).trans ((below_alloc _ _).mono (by simp only [World.size_alloc]; omega))).mono (by simp only [World.size_alloc]; omega))).mono (by simp only [World.size_alloc]; omega))
/-- What the reference hands back: the entry counts only where it is kept. -/
def OutR (w : World) (q : Q4) (e : Ending) (w' : World) : Prop := ∃ y : En, e = .returned (.tuple #[.agg q.1.cs.toArray, .agg y.cs.toArray, .bool q.2.2.1, .bool q.2.2.2]) ∧ (q.2.2.1 = true → y = q.2.1) ∧ Below w.heap.size w w'
end Go.Proofs.YtpkmfckifnomeaaDoor
