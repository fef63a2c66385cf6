/-
  PLACERUNS walked.
-/
import Derived.Test.YtdnbpbkckdjbjaaStp
namespace Go.Proofs.Ytdnbpbkckdjbjaa
open Go.RowKit

/-- A world that lies above Y: nothing of Y has turned in it. -/
structure Up (Y : World) where
  w : World
  h : Below Y.heap.size Y w
/-- A region that draws its order and whose calls make new memory: walked in all the worlds in which nothing elder has turned. -/
theorem region_up {P : Program} {id : Nat} {Q : Exit → Act → World → Prop} {a : Act} {w : World} {l : List Oper} (hm : P.follows .mixedOrders = true) (hB : Region.lexB .any l.toArray = true) (Y : World) (hY : Y = { w with drawn := w.drawn + 1 })
    (h : wpQuiet P l.toArray (fun w' => ∃ s : Up Y, w' = s.w) (fun a' => ∀ w', (∃ s : Up Y, w' = s.w) → Q .normal a' w') l a) : (Code.region id l.toArray true).wp P Q a w :=
  wp_region_quiet (C := fun w' => ∃ s : Up Y, w' = s.w) hm hB ⟨⟨Y, Below.refl _ _⟩, hY.symm⟩ (by simpa using h)
theorem Up.cell {Y : World} (s : Up Y) {b off : Nat} {v : Value} (h : Y.cell? ⟨b, off, none⟩ = some v) : s.w.cell? ⟨b, off, none⟩ = some v :=
  (World.cell?_of_block (a := ⟨b, off, none⟩) (s.h.block b (World.block_lt_of_cell? _ _ h))).trans h
theorem str_a : str ⟨#[97]⟩ 3 5 = [0, 1, 2] := by decide
theorem met_a : met ⟨#[97]⟩ 1 5 = [0, 1] := by decide
theorem pos_a : ixf 1 [0, 1, 2] 0 = 1 := by decide
set_option maxRecDepth 100000 in
set_option maxHeartbeats 1000000 in
theorem runs_any (w : World) : Calls Try.prog 3 #[] w fun e w' => e = .returned (.bool true) ∧ Below w.heap.size w w' := by
  go_enter Try.func3, Try.ntmps3
  go_wp2_with fail
  refine (stripe_any ⟨#[97]⟩ (by decide) 3 5 _).mono ?_
  rintro e w1 ⟨V, rfl, i1, b1⟩
  rw [str_a] at i1
  obtain ⟨a, c, rfl, _⟩ := i1.form
  obtain ⟨g, rfl, hg, c0⟩ := i1.read (j := 0) rfl
  obtain ⟨_, e1, _, c1⟩ := i1.read (j := 1) rfl
  injection e1 with e1; injection e1 with e1; subst e1
  obtain ⟨_, e1, _, c2⟩ := i1.read (j := 2) rfl
  injection e1 with e1; injection e1 with e1; subst e1
  have HB1 := hid b1
  have H0 := hid c0
  have H1 := hid c1
  have H2 := hid c2
  clear i1 b1 c0 c1 c2 hg
  go_wp2_with fail
  refine (metas_any ⟨#[97]⟩ (by decide) 1 5 (by decide) _).mono ?_
  rintro e w2 ⟨V, rfl, i1, b1⟩
  rw [met_a] at i1
  obtain ⟨a, c', rfl, _⟩ := i1.form
  obtain ⟨h, rfl, hh, m0⟩ := i1.read (j := 0) rfl
  obtain ⟨_, e1, _, m1⟩ := i1.read (j := 1) rfl
  injection e1 with e1; injection e1 with e1; subst e1
  have HB2 := hid (HB1.out.trans (b1.mono HB1.out.size))
  have d0 := (World.cell?_of_block (a := ⟨g, 0, none⟩) (b1.block g (World.block_lt_of_cell? _ _ H0.out))).trans H0.out
  have d1 := (World.cell?_of_block (a := ⟨g, 1, none⟩) (b1.block g (World.block_lt_of_cell? _ _ H0.out))).trans H1.out
  have d2 := (World.cell?_of_block (a := ⟨g, 2, none⟩) (b1.block g (World.block_lt_of_cell? _ _ H0.out))).trans H2.out
  clear i1 b1 hh HB1 H0 H1 H2
  obtain ⟨Y, eY⟩ : ∃ Y : World, Y = { w2 with drawn := w2.drawn + 1 } := ⟨_, rfl⟩
  have YB : Hid (Below w2.heap.size w2 Y) := hid (by rw [eY]; exact below_drewN (Below.refl _ _) 1)
  have k0 : ∀ s : Up Y, s.w.cell? ⟨g, 0, none⟩ = some (.int .i64 0) := fun s => s.cell (by rw [eY]; exact d0)
  have k1 : ∀ s : Up Y, s.w.cell? ⟨g, 1, none⟩ = some (.int .i64 1) := fun s => s.cell (by rw [eY]; exact d1)
  have k2 : ∀ s : Up Y, s.w.cell? ⟨g, 2, none⟩ = some (.int .i64 2) := fun s => s.cell (by rw [eY]; exact d2)
  have k3 : ∀ s : Up Y, s.w.cell? ⟨h, 0, none⟩ = some (.int .i64 0) := fun s => s.cell (by rw [eY]; exact m0)
  have k4 : ∀ s : Up Y, s.w.cell? ⟨h, 1, none⟩ = some (.int .i64 1) := fun s => s.cell (by rw [eY]; exact m1)
  have D1 : Hid (∀ s : Up Y, Calls Try.prog 9 #[.string ⟨#[97]⟩, .int .i64 3, .int .i64 5, .int .i64 1] s.w fun e w' => e = .returned (.int .i64 1) ∧ ∃ s' : Up Y, w' = s'.w) := hid (fun s => (pos_any ⟨#[97]⟩ (by decide) 3 5 1 s.w).mono fun _ w' h => ⟨by rw [h.1, str_a, pos_a], ⟨w', s.h.trans (h.2.mono s.h.size)⟩, rfl⟩)
  have D2 : Hid (∀ s : Up Y, Calls Try.prog 7 #[.string ⟨#[97]⟩, .int .i64 6, .int .i64 5] s.w fun e w' => e = .returned (.slice none 0 0) ∧ ∃ s' : Up Y, w' = s'.w) := hid (fun s => (stripe_no ⟨#[97]⟩ 6 5 (by decide) s.w).mono fun _ w' h => ⟨h.1, s, h.2.symm⟩)
  clear m0 m1 d0 d1 d2
  go_wp2_with fail
  refine region_up (by kernel_rfl) (by kernel_rfl) Y eY ?_
  clear eY
  have ne : Nonempty (Up Y) := ⟨⟨Y, Below.refl _ _⟩⟩
  repeat (go_big_quiet_step (first | exact D1.out _ | exact D2.out _))
  refine wpQuiet_nil ?_
  rintro w13 ⟨s13, rfl⟩
  have fB : Hid (Below w.heap.size w s13.w) := hid (HB2.out.trans ((YB.out.trans (s13.h.mono YB.out.size)).mono HB2.out.size))
  go_wp2_with fail
  go_ret
  exact ⟨rfl, fB.out⟩
end Go.Proofs.Ytdnbpbkckdjbjaa
