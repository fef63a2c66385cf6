/-
  same.
-/
import Derived.Test.YtedbklipbfbmoaaDoorPSa
import Derived.Deep.RegionHeld3
namespace Go.Proofs.YtedbklipbfbmoaaDoor
open Go.RowKit

/-- A world that lies above Y: nothing of Y has turned in it. -/
structure Up (Y : World) where
  w : World
  h : Below Y.heap.size Y w
/-- A region that draws its order and whose calls make new memory: walked in all the worlds in which nothing elder has turned. -/
theorem region_up {P : Program} {id : Nat} {Q : Exit → Act → World → Prop} {a : Act} {w : World} {l : List Oper} (hm : P.follows .mixedOrders = true) (hB : Region.lexB .any l.toArray = true) (Y : World) (hY : Y = { w with drawn := w.drawn + 1 })
    (h : wpQuiet P l.toArray (fun w' => ∃ s : Up Y, w' = s.w) (fun a' => ∀ w', (∃ s : Up Y, w' = s.w) → Q .normal a' w') l a) : (Code.region id l.toArray true).wp P Q a w :=
  wp_region_quiet (C := fun w' => ∃ s : Up Y, w' = s.w) hm hB ⟨⟨Y, Below.refl _ _⟩, hY.symm⟩ (by simpa using h)
theorem Up.cell {Y : World} (s : Up Y) {b off : Nat} {v : Value} (h : Y.cell? ⟨b, off, none⟩ = some v) : s.w.cell? ⟨b, off, none⟩ = some v :=
  (World.cell?_of_block (a := ⟨b, off, none⟩) (s.h.block b (World.block_lt_of_cell? _ _ h))).trans h
theorem answers_up {Y : World} (s : Up Y) (K : Int) (tx : ByteArray) : Calls Tryd.prog 27 #[.agg #[.int .i64 K, .slice none 0 0, .bool false, .int .u64 0, .string tx, .int .i64 0, .int .i64 0, .int .i64 0, .int .i64 0], .agg #[.int .i64 K, .slice none 0 0, .bool false, .int .u64 0, .string tx, .int .i64 0, .int .i64 0, .int .i64 0, .int .i64 0]] s.w fun e w' => e = .returned (.bool true) ∧ ∃ s' : Up Y, w' = s'.w :=
  (answers_any K tx s.w).mono fun _ w' h => ⟨h.1, ⟨w', s.h.trans (h.2.mono s.h.size)⟩, rfl⟩
theorem reqs_up {Y : World} (s : Up Y) (dt : ByteArray) (V f x b c D : Int) (q : Bool) (ks : List B) (a1 a2 : Option Addr) (n1 n2 c1 c2 : Nat) (hl : ks.length ≤ 100000) (h1 : Strs Y (.slice a1 n1 c1) ks) (h2 : Strs Y (.slice a2 n2 c2) ks) :
    Calls Tryd.prog 26 #[.agg #[.int .i64 V, .slice a1 n1 c1, .int .i64 f, .int .i64 x, .int .i64 b, .int .i64 c, .int .u64 D, .bool q, .string dt], .agg #[.int .i64 V, .slice a2 n2 c2, .int .i64 f, .int .i64 x, .int .i64 b, .int .i64 c, .int .u64 D, .bool q, .string dt]] s.w fun e w' => e = .returned (.bool true) ∧ ∃ s' : Up Y, w' = s'.w :=
  (reqs_d dt V f x b c D q ks a1 a2 n1 n2 c1 c2 hl s.w (h1.below s.h) (h2.below s.h)).mono fun _ w' h => ⟨h.1, ⟨w', s.h.trans (h.2.mono s.h.size)⟩, rfl⟩
set_option maxRecDepth 100000 in
set_option maxHeartbeats 2000000 in
/-- same, of two rows of the same events. -/
theorem same_evs {o : Nat → Nat × Nat} {ta tb : Nat × Nat} {a b : Option Addr} {n m ca cb : Nat} {l : List Ev} (hk : ∀ ev ∈ l, ev.rq.keys.length ≤ 100000) (hl : l.length ≤ 1000000000) (w : World) (hA : Evs w o ta (.slice a n ca) l) (hB : Evs w o tb (.slice b m cb) l) :
    Calls Tryd.prog 14 #[.slice a n ca, .slice b m cb] w fun e w' => e = .returned (.bool true) ∧ Below w.heap.size w w' := by
  have e1 := hA.len
  have e2 := hB.len
  obtain ⟨N, hN⟩ : ∃ N, N = l.length := ⟨_, rfl⟩
  rw [← hN] at e1 e2 hl
  subst e1 e2
  have HN := Lib.hid hN
  have HA := Lib.hid hA
  have HB := Lib.hid hB
  have HKS := Lib.hid hk
  have ne : ((m : Int) != (m : Int)) = false := by simp
  clear hN hA hB hk
  go_enter Tryd.func14, Tryd.ntmps14
  go_wp2_with fail
  go_loopw [5] (fun i wr => ∃ j : Nat, j ≤ m ∧ i = .int .i64 (j : Int) ∧ Hid (Below w.heap.size w wr)) (fun i _ => m - (intOf i).toNat)
  case atStart => exact ⟨0, by omega, rfl, Lib.hid (Below.refl _ _)⟩
  case round =>
    obtain ⟨j, hj, rfl, HW⟩ := hrel
    by_cases hlt : j < m
    · obtain ⟨ev, hev⟩ : ∃ ev, l[j]? = some ev := ⟨_, List.getElem?_eq_getElem (by rw [← HN.out]; exact hlt)⟩
      have hkl := HKS.out ev (List.mem_of_getElem? hev)
      obtain ⟨g, E, rfl, ⟨xa, xn, xc, hE, hKx⟩, hc⟩ := HA.out.cell hev
      obtain ⟨g', E', rfl, ⟨ya, yn, yc, hE', hKy⟩, hc'⟩ := HB.out.cell hev
      have hi1 : (j : Int) < (m : Int) := by omega
      obtain ⟨⟨vb_, ks, fl, ex, by_, ca_, de, qu⟩, da, ki, te⟩ := ev
      simp only at hkl hKx hKy
      obtain ⟨V, hV⟩ : ∃ V : Int, V = ((vb_ : Nat) : Int) := ⟨_, rfl⟩
      obtain ⟨D, hD⟩ : ∃ D : Int, D = ((de : Nat) : Int) := ⟨_, rfl⟩
      obtain ⟨K, hK⟩ : ∃ K : Int, K = ((ki : Nat) : Int) := ⟨_, rfl⟩
      obtain ⟨dt, hdt⟩ : ∃ dt, dt = S da := ⟨_, rfl⟩
      obtain ⟨tx, htx⟩ : ∃ tx, tx = S te := ⟨_, rfl⟩
      simp only [Ev.cs] at hE hE'
      rw [← hV, ← hD, ← hK, ← hdt, ← htx] at hE hE'
      obtain ⟨Y, eY⟩ : ∃ Y : World, Y = { wr with drawn := wr.drawn + 1 } := ⟨_, rfl⟩
      have yB : Below w.heap.size w Y := by rw [eY]; exact HW.out.trans ((below_drewN (Below.refl _ wr) 1).mono HW.out.size)
      have yC : ∀ {bb off : Nat} {v : Value}, w.cell? ⟨bb, off, none⟩ = some v → Y.cell? ⟨bb, off, none⟩ = some v := fun h => cell_up yB h
      have SX := hKx.1.below yB
      have SY := hKy.1.below yB
      have p0 : ∀ s : Up Y, s.w.cell? ⟨g, j * 18, none⟩ = some (.int .i64 V) := fun s => s.cell (yC (hc 0 _ (by rw [hE]; rfl)))
      have p1 : ∀ s : Up Y, s.w.cell? ⟨g, j * 18 + 1, none⟩ = some (.slice xa xn xc) := fun s => s.cell (yC (hc 1 _ (by rw [hE]; rfl)))
      have p2 : ∀ s : Up Y, s.w.cell? ⟨g, j * 18 + 2, none⟩ = some (.int .i64 fl) := fun s => s.cell (yC (hc 2 _ (by rw [hE]; rfl)))
      have p3 : ∀ s : Up Y, s.w.cell? ⟨g, j * 18 + 3, none⟩ = some (.int .i64 ex) := fun s => s.cell (yC (hc 3 _ (by rw [hE]; rfl)))
      have p4 : ∀ s : Up Y, s.w.cell? ⟨g, j * 18 + 4, none⟩ = some (.int .i64 by_) := fun s => s.cell (yC (hc 4 _ (by rw [hE]; rfl)))
      have p5 : ∀ s : Up Y, s.w.cell? ⟨g, j * 18 + 5, none⟩ = some (.int .i64 ca_) := fun s => s.cell (yC (hc 5 _ (by rw [hE]; rfl)))
      have p6 : ∀ s : Up Y, s.w.cell? ⟨g, j * 18 + 6, none⟩ = some (.int .u64 D) := fun s => s.cell (yC (hc 6 _ (by rw [hE]; rfl)))
      have p7 : ∀ s : Up Y, s.w.cell? ⟨g, j * 18 + 7, none⟩ = some (.bool qu) := fun s => s.cell (yC (hc 7 _ (by rw [hE]; rfl)))
      have p8 : ∀ s : Up Y, s.w.cell? ⟨g, j * 18 + 8, none⟩ = some (.string dt) := fun s => s.cell (yC (hc 8 _ (by rw [hE]; rfl)))
      have p9 : ∀ s : Up Y, s.w.cell? ⟨g, j * 18 + 9, none⟩ = some (.int .i64 K) := fun s => s.cell (yC (hc 9 _ (by rw [hE]; rfl)))
      have p10 : ∀ s : Up Y, s.w.cell? ⟨g, j * 18 + 9 + 1, none⟩ = some (.slice none 0 0) := fun s => s.cell (yC (hc 10 _ (by rw [hE]; rfl)))
      have p11 : ∀ s : Up Y, s.w.cell? ⟨g, j * 18 + 9 + 2, none⟩ = some (.bool false) := fun s => s.cell (yC (hc 11 _ (by rw [hE]; rfl)))
      have p12 : ∀ s : Up Y, s.w.cell? ⟨g, j * 18 + 9 + 3, none⟩ = some (.int .u64 0) := fun s => s.cell (yC (hc 12 _ (by rw [hE]; rfl)))
      have p13 : ∀ s : Up Y, s.w.cell? ⟨g, j * 18 + 9 + 4, none⟩ = some (.string tx) := fun s => s.cell (yC (hc 13 _ (by rw [hE]; rfl)))
      have p14 : ∀ s : Up Y, s.w.cell? ⟨g, j * 18 + 9 + 5, none⟩ = some (.int .i64 0) := fun s => s.cell (yC (hc 14 _ (by rw [hE]; rfl)))
      have p15 : ∀ s : Up Y, s.w.cell? ⟨g, j * 18 + 9 + 6, none⟩ = some (.int .i64 0) := fun s => s.cell (yC (hc 15 _ (by rw [hE]; rfl)))
      have p16 : ∀ s : Up Y, s.w.cell? ⟨g, j * 18 + 9 + 7, none⟩ = some (.int .i64 0) := fun s => s.cell (yC (hc 16 _ (by rw [hE]; rfl)))
      have p17 : ∀ s : Up Y, s.w.cell? ⟨g, j * 18 + 9 + 8, none⟩ = some (.int .i64 0) := fun s => s.cell (yC (hc 17 _ (by rw [hE]; rfl)))
      have r0 : ∀ s : Up Y, s.w.cell? ⟨g', j * 18, none⟩ = some (.int .i64 V) := fun s => s.cell (yC (hc' 0 _ (by rw [hE']; rfl)))
      have r1 : ∀ s : Up Y, s.w.cell? ⟨g', j * 18 + 1, none⟩ = some (.slice ya yn yc) := fun s => s.cell (yC (hc' 1 _ (by rw [hE']; rfl)))
      have r2 : ∀ s : Up Y, s.w.cell? ⟨g', j * 18 + 2, none⟩ = some (.int .i64 fl) := fun s => s.cell (yC (hc' 2 _ (by rw [hE']; rfl)))
      have r3 : ∀ s : Up Y, s.w.cell? ⟨g', j * 18 + 3, none⟩ = some (.int .i64 ex) := fun s => s.cell (yC (hc' 3 _ (by rw [hE']; rfl)))
      have r4 : ∀ s : Up Y, s.w.cell? ⟨g', j * 18 + 4, none⟩ = some (.int .i64 by_) := fun s => s.cell (yC (hc' 4 _ (by rw [hE']; rfl)))
      have r5 : ∀ s : Up Y, s.w.cell? ⟨g', j * 18 + 5, none⟩ = some (.int .i64 ca_) := fun s => s.cell (yC (hc' 5 _ (by rw [hE']; rfl)))
      have r6 : ∀ s : Up Y, s.w.cell? ⟨g', j * 18 + 6, none⟩ = some (.int .u64 D) := fun s => s.cell (yC (hc' 6 _ (by rw [hE']; rfl)))
      have r7 : ∀ s : Up Y, s.w.cell? ⟨g', j * 18 + 7, none⟩ = some (.bool qu) := fun s => s.cell (yC (hc' 7 _ (by rw [hE']; rfl)))
      have r8 : ∀ s : Up Y, s.w.cell? ⟨g', j * 18 + 8, none⟩ = some (.string dt) := fun s => s.cell (yC (hc' 8 _ (by rw [hE']; rfl)))
      have r9 : ∀ s : Up Y, s.w.cell? ⟨g', j * 18 + 9, none⟩ = some (.int .i64 K) := fun s => s.cell (yC (hc' 9 _ (by rw [hE']; rfl)))
      have r10 : ∀ s : Up Y, s.w.cell? ⟨g', j * 18 + 9 + 1, none⟩ = some (.slice none 0 0) := fun s => s.cell (yC (hc' 10 _ (by rw [hE']; rfl)))
      have r11 : ∀ s : Up Y, s.w.cell? ⟨g', j * 18 + 9 + 2, none⟩ = some (.bool false) := fun s => s.cell (yC (hc' 11 _ (by rw [hE']; rfl)))
      have r12 : ∀ s : Up Y, s.w.cell? ⟨g', j * 18 + 9 + 3, none⟩ = some (.int .u64 0) := fun s => s.cell (yC (hc' 12 _ (by rw [hE']; rfl)))
      have r13 : ∀ s : Up Y, s.w.cell? ⟨g', j * 18 + 9 + 4, none⟩ = some (.string tx) := fun s => s.cell (yC (hc' 13 _ (by rw [hE']; rfl)))
      have r14 : ∀ s : Up Y, s.w.cell? ⟨g', j * 18 + 9 + 5, none⟩ = some (.int .i64 0) := fun s => s.cell (yC (hc' 14 _ (by rw [hE']; rfl)))
      have r15 : ∀ s : Up Y, s.w.cell? ⟨g', j * 18 + 9 + 6, none⟩ = some (.int .i64 0) := fun s => s.cell (yC (hc' 15 _ (by rw [hE']; rfl)))
      have r16 : ∀ s : Up Y, s.w.cell? ⟨g', j * 18 + 9 + 7, none⟩ = some (.int .i64 0) := fun s => s.cell (yC (hc' 16 _ (by rw [hE']; rfl)))
      have r17 : ∀ s : Up Y, s.w.cell? ⟨g', j * 18 + 9 + 8, none⟩ = some (.int .i64 0) := fun s => s.cell (yC (hc' 17 _ (by rw [hE']; rfl)))
      have YB := Lib.hid yB
      have HSX := Lib.hid SX
      have HSY := Lib.hid SY
      clear hE hE' hc hc' yC yB SX SY hKx hKy hV hD hK hdt htx hev
      go_wp2_with fail
      refine region_up (by kernel_rfl) (by kernel_rfl) Y eY ?_
      clear eY
      have ne2 : Nonempty (Up Y) := ⟨⟨Y, Below.refl _ _⟩⟩
      repeat (go_big_quiet_step (first | exact reqs_up _ _ _ _ _ _ _ _ _ ks _ _ _ _ _ _ hkl HSX.out HSY.out | exact answers_up _ _ _))
      refine wpQuiet_nil ?_
      rintro w13 ⟨s13, rfl⟩
      have fB : Below w.heap.size w s13.w := YB.out.trans (s13.h.mono YB.out.size)
      have FB := Lib.hid fB
      clear fB
      go_wp2_with fail
      exact ⟨⟨j + 1, by omega, by go_num, FB⟩, by simp [intOf]; omega⟩
    · have hi1 : decide ((j : Int) < (m : Int)) = false := decide_eq_false (by omega)
      go_wp2_with fail
      go_ret
      exact ⟨rfl, HW.out⟩
end Go.Proofs.YtedbklipbfbmoaaDoor
