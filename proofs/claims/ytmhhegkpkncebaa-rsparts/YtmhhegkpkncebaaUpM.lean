/-
  A REGION THAT DRAWS ITS ORDER AND WHOSE CALLS MAKE NEW MEMORY: walked in all the worlds in which nothing elder has turned; what make does to bytes; Dot in such worlds.
-/
import Derived.Test.YtmhhegkpkncebaaPartsM
import Derived.Test.YtmhhegkpkncebaaWithinM
import Derived.StillTailTactics
namespace Go.Proofs.Ytmhhegkpkncebaa
open Go.RowKit

theorem info5 : (Try.prog.info? 5).map (fun i => (i.zero, i.size, i.bytes)) = some (some (.int .u8 0), 1, 1) := by kernel_rfl

/-- 'make([]byte, n)'. -/
theorem make_bytes (w : World) (n : Nat) (h : n ≤ 281474976710656) : ∃ w' cur, (Instr.makeSlice 54 (.int .i64 (n : Int)) (.int .i64 (n : Int))).run Try.prog w = .ok (.slice (some ⟨w.heap.size, 0, none⟩) n n) w' ∧
    w'.heap[w.heap.size]? = some (.cells cur 5 (0, 0)) ∧ cur.size = n ∧ Below w.heap.size w w' := by
  obtain ⟨i0, hi, hz0, hz1, hz2⟩ := info_parts info5
  obtain ⟨w', hrun, own, gr⟩ := run_make_full (P := Try.prog) w w.heap.size 54 5 i0 (.int .u8 0) 1 (by kernel_rfl) hi hz0 hz1 .i64 .i64 n (by rw [hz2]; omega) (by unfold maxLen; omega) (Nat.le_refl _)
  have hb : Below w.heap.size w w' := (Below.refl _ _).grown gr (Nat.le_refl _) (fun k e => by cases e)
  rcases own.2 with ⟨h1, _⟩ | ⟨g, cap, cur, h1, _, h3, _, _, h6, _⟩
  · cases h1
  · injection h1 with e1 e2 e3
    injection e1 with e1
    injection e1 with e1 e4 e5
    subst e1 e3
    exact ⟨w', cur, hrun, h3, by omega, hb⟩

/-- A world that lies above Y: nothing of Y has turned in it. -/
structure Up (Y : World) where
  w : World
  h : Below Y.heap.size Y w
theorem region_up {P : Program} {id : Nat} {Q : Exit → Act → World → Prop} {a : Act} {w : World} {l : List Oper} (hm : P.follows .mixedOrders = true) (hB : Region.lexB .any l.toArray = true) (Y : World) (hY : Y = { w with drawn := w.drawn + 1 })
    (h : wpQuiet P l.toArray (fun w' => ∃ s : Up Y, w' = s.w) (fun a' => ∀ w', (∃ s : Up Y, w' = s.w) → Q .normal a' w') l a) : (Code.region id l.toArray true).wp P Q a w :=
  wp_region_quiet (C := fun w' => ∃ s : Up Y, w' = s.w) hm hB ⟨⟨Y, Below.refl _ _⟩, hY.symm⟩ (by simpa using h)
theorem RowF.short {w : World} {a : Option Addr} {f : Nat → Nat} {n k : Nat} (h : RowF w a f n) (hk : k ≤ n) : RowF w a f k := by
  rcases h with h | ⟨p, off, e, hc⟩
  · exact Or.inl (by omega)
  · exact Or.inr ⟨p, off, e, fun i hi => hc i (by omega)⟩
end Go.Proofs.Ytmhhegkpkncebaa
