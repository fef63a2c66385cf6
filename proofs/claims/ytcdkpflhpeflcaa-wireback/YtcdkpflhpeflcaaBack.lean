/-
  WIREBACK walked: a right frame comes back, and from no beginning; what any bytes are taken as has these bytes; two have the same just if they are the same.
-/
import Derived.Test.YtcdkpflhpeflcaaRuns
import Derived.Test.YtcdkpflhpeflcaaAt
import Derived.Test.YtcdkpflhpeflcaaEqs
import Derived.Deep.RegionHeld3
import Derived.StillTailTactics
namespace Go.Proofs.Ytcdkpflhpeflcaa
open Go.RowKit

/-- A world that lies above Y: nothing of Y has turned in it. -/
structure Up (Y : World) where
  w : World
  h : Below Y.heap.size Y w
/-- A region that draws its order and whose calls make new memory: walked in all the worlds in which nothing elder has turned. -/
theorem region_up {P : Program} {id : Nat} {Q : Exit → Act → World → Prop} {a : Act} {w : World} {l : List Oper} (hm : P.follows .mixedOrders = true) (hB : Region.lexB .any l.toArray = true) (Y : World) (hY : Y = { w with drawn := w.drawn + 1 })
    (h : wpQuiet P l.toArray (fun w' => ∃ s : Up Y, w' = s.w) (fun a' => ∀ w', (∃ s : Up Y, w' = s.w) → Q .normal a' w') l a) : (Code.region id l.toArray true).wp P Q a w :=
  wp_region_quiet (C := fun w' => ∃ s : Up Y, w' = s.w) hm hB ⟨⟨Y, Below.refl _ _⟩, hY.symm⟩ (by simpa using h)
theorem Up.cell {Y : World} (s : Up Y) {b off : Nat} {v : Value} (h : Y.cell? ⟨b, off, none⟩ = some v) : s.w.cell? ⟨b, off, none⟩ = some v :=
  (World.cell?_of_block (a := ⟨b, off, none⟩) (s.h.block b (World.block_lt_of_cell? _ _ h))).trans h
theorem runs_up {Y : World} (s : Up Y) : Calls Try.prog 3 #[] s.w fun e w' => e = .returned (.bool true) ∧ ∃ s' : Up Y, w' = s'.w :=
  (runs_any s.w).mono fun _ w' h => ⟨h.1, ⟨w', s.h.trans (h.2.mono s.h.size)⟩, rfl⟩
theorem right_up {Y : World} (s : Up Y) (b : Bool) (f0 f1 f2 f3 f4 f5 f7 : Int) (f6 f8 : ByteArray) (hb : rt ⟨f0, f1, f2, f3, f4, f5, f6, f7, f8⟩ = b) : Calls Try.prog 15 #[.agg #[.int .i64 f0, .int .i64 f1, .int .i64 f2, .int .i64 f3, .int .i64 f4, .int .i64 f5, .string f6, .int .i64 f7, .string f8]] s.w fun e w' => e = .returned (.bool b) ∧ ∃ s' : Up Y, w' = s'.w :=
  (right_any ⟨f0, f1, f2, f3, f4, f5, f6, f7, f8⟩ s.w).mono fun _ w' h => ⟨by rw [h.1, hb], ⟨w', s.h.trans (h.2.mono s.h.size)⟩, rfl⟩
/-- Two lists of bytes, of any length. -/
theorem same_ls (a a' : Option Addr) (n n' c c' : Nat) (l l' : List Nat) (hn : n = l.length) (hn' : n' = l'.length) (hl : l.length ≤ 140737488351232) (b : Bool) (hb : b = true ↔ l = l') (w : World) (ra : RowF w a (lf l) n) (rb : RowF w a' (lf l') n') :
    Calls Try.prog 7 #[.slice a n c, .slice a' n' c'] w fun e w' => e = .returned (.bool b) ∧ Below w.heap.size w w' := by
  subst hn hn'
  by_cases h : l = l'
  · subst h
    have hb' : b = true := hb.2 rfl
    subst hb'
    refine (same_any a a' l.length c c' (lf l) (lf l) hl (fun _ _ => rfl) w ra rb).mono ?_
    rintro e w' ⟨rfl, m, rfl⟩
    exact ⟨rfl, below_drewN (Below.refl _ _) m⟩
  · have hb' : b = false := by
      cases b with
      | false => rfl
      | true => exact absurd (hb.1 rfl) h
    subst hb'
    refine (same_no a a' l.length l'.length c c' (lf l) (lf l') (by omega) ?_ w ra rb).mono ?_
    · by_cases h1 : l.length = l'.length
      · refine .inr (Classical.byContradiction fun h2 => h (list_ext h1 fun i hi => ?_))
        exact Classical.byContradiction fun h3 => h2 ⟨i, hi, h3⟩
      · exact .inl h1
    · rintro e w' ⟨rfl, m, rfl⟩
      exact ⟨rfl, below_drewN (Below.refl _ _) m⟩
theorem RowF.to_tab {w : World} {a : Option Addr} {f : Nat → Nat} {n : Nat} (h : RowF w a f n) : RowF w a (lf (tab f n)) n := by
  rcases h with h | ⟨p, off, e, hr⟩
  · exact .inl h
  · exact .inr ⟨p, off, e, fun i hi => by rw [lf_tab hi]; exact hr i hi⟩
set_option maxHeartbeats 2000000 in
set_option maxRecDepth 100000 in
theorem back_walk (f g : F) (hf1 : f.key.size ≤ 140737488351232) (hf2 : f.data.size ≤ 140737488351232) (hg1 : g.key.size ≤ 140737488351232) (hg2 : g.data.size ≤ 140737488351232) (a : Option Addr) (len cap : Nat) (fn : Nat → Nat) (fb : ∀ i, fn i < 256) (hlen : len ≤ 140737488351232) (cut : Int) (w : World) (ra : RowF w a fn len) :
    Calls Try.prog 5 #[f.v, g.v, .slice a len cap, .int .i64 cut] w fun e w' => e = .returned (.bool true) ∧ Below w.heap.size w w' := by
  have LF : Hid (∀ w, Calls Try.prog 9 #[f.v] w fun e w' => e = .returned (.bool (ltF f)) ∧ Below w.heap.size w w') := light_any f hf1 hf2
  have LG : Hid (∀ w, Calls Try.prog 9 #[g.v] w fun e w' => e = .returned (.bool (ltF g)) ∧ Below w.heap.size w w') := light_any g hg1 hg2
  have PF : Hid (∀ w, Calls Try.prog 6 #[f.v] w fun e w' => ∃ v, e = .returned v ∧ OwnC w' w.heap.size v (byF f) ∧ Below w.heap.size w w' ∧ (rt f = false → v = .slice none 0 0)) := put_any f
  have PG : Hid (∀ w, Calls Try.prog 6 #[g.v] w fun e w' => ∃ v, e = .returned v ∧ OwnC w' w.heap.size v (byF g) ∧ Below w.heap.size w w' ∧ (rt g = false → v = .slice none 0 0)) := put_any g
  have RF : Hid (∀ w, Calls Try.prog 15 #[f.v] w fun e w' => e = .returned (.bool (rt f)) ∧ Below w.heap.size w w') := right_any f
  have RG : Hid (∀ w, Calls Try.prog 15 #[g.v] w fun e w' => e = .returned (.bool (rt g)) ∧ Below w.heap.size w w') := right_any g
  have FB : Hid (∀ i, fn i < 256) := fb
  obtain ⟨f0, f1, f2, f3, f4, f5, f6, f7, f8⟩ := f
  obtain ⟨f, hf⟩ : ∃ f : F, f = ⟨f0, f1, f2, f3, f4, f5, f6, f7, f8⟩ := ⟨_, rfl⟩
  obtain ⟨g0, g1, g2, g3, g4, g5, g6, g7, g8⟩ := g
  obtain ⟨g, hg⟩ : ∃ g : F, g = ⟨g0, g1, g2, g3, g4, g5, g6, g7, g8⟩ := ⟨_, rfl⟩
  have HF : Hid (f = ⟨f0, f1, f2, f3, f4, f5, f6, f7, f8⟩) := hf
  have HG : Hid (g = ⟨g0, g1, g2, g3, g4, g5, g6, g7, g8⟩) := hg
  have vf : (⟨f0, f1, f2, f3, f4, f5, f6, f7, f8⟩ : F).v = .agg #[.int .i64 f0, .int .i64 f1, .int .i64 f2, .int .i64 f3, .int .i64 f4, .int .i64 f5, .string f6, .int .i64 f7, .string f8] := rfl
  have vg : (⟨g0, g1, g2, g3, g4, g5, g6, g7, g8⟩ : F).v = .agg #[.int .i64 g0, .int .i64 g1, .int .i64 g2, .int .i64 g3, .int .i64 g4, .int .i64 g5, .string g6, .int .i64 g7, .string g8] := rfl
  rw [vf, vg]
  rw [vf, ← hf] at LF PF RF
  rw [vg, ← hg] at LG PG RG
  have EQF : ∀ w, (binOp .eql 25 (.agg #[.int .i64 f0, .int .i64 f1, .int .i64 f2, .int .i64 f3, .int .i64 f4, .int .i64 f5, .string f6, .int .i64 f7, .string f8]) (.agg #[.int .i64 f0, .int .i64 f1, .int .i64 f2, .int .i64 f3, .int .i64 f4, .int .i64 f5, .string f6, .int .i64 f7, .string f8])).run Try.prog w = .ok (.bool true) w := fun w => eql25 w ⟨f0, f1, f2, f3, f4, f5, f6, f7, f8⟩ ⟨f0, f1, f2, f3, f4, f5, f6, f7, f8⟩ true (by simp)
  have EQG : Hid (∀ (w : World) (b : Bool), (b = true ↔ f = g) → (binOp .eql 25 (.agg #[.int .i64 f0, .int .i64 f1, .int .i64 f2, .int .i64 f3, .int .i64 f4, .int .i64 f5, .string f6, .int .i64 f7, .string f8]) (.agg #[.int .i64 g0, .int .i64 g1, .int .i64 g2, .int .i64 g3, .int .i64 g4, .int .i64 g5, .string g6, .int .i64 g7, .string g8])).run Try.prog w = .ok (.bool b) w) := fun w b hb => eql25 w ⟨f0, f1, f2, f3, f4, f5, f6, f7, f8⟩ ⟨g0, g1, g2, g3, g4, g5, g6, g7, g8⟩ b (by rw [hb, hf, hg])
  clear vf vg hf1 hf2 hg1 hg2 fb
  have B1 : Hid (Below w.heap.size w ((w.alloc (.cells #[.int .i64 f0, .int .i64 f1, .int .i64 f2, .int .i64 f3, .int .i64 f4, .int .i64 f5, .string f6, .int .i64 f7, .string f8] 25)).alloc (.cells #[.int .i64 g0, .int .i64 g1, .int .i64 g2, .int .i64 g3, .int .i64 g4, .int .i64 g5, .string g6, .int .i64 g7, .string g8] 25))) := ((Below.refl _ _).alloc (Nat.le_refl _) _).alloc (by rw [World.size_alloc]; omega) _
  have FA : Hid (FrmAt ((w.alloc (.cells #[.int .i64 f0, .int .i64 f1, .int .i64 f2, .int .i64 f3, .int .i64 f4, .int .i64 f5, .string f6, .int .i64 f7, .string f8] 25)).alloc (.cells #[.int .i64 g0, .int .i64 g1, .int .i64 g2, .int .i64 g3, .int .i64 g4, .int .i64 g5, .string g6, .int .i64 g7, .string g8] 25)) w.heap.size f) := (FrmAt.new w f _ (by rw [hf]; rfl)).up ((Below.refl _ _).alloc (Nat.le_refl _) _)
  have FG : Hid (FrmAt ((w.alloc (.cells #[.int .i64 f0, .int .i64 f1, .int .i64 f2, .int .i64 f3, .int .i64 f4, .int .i64 f5, .string f6, .int .i64 f7, .string f8] 25)).alloc (.cells #[.int .i64 g0, .int .i64 g1, .int .i64 g2, .int .i64 g3, .int .i64 g4, .int .i64 g5, .string g6, .int .i64 g7, .string g8] 25)) (w.heap.size + 1) g) := by
    have := FrmAt.new (w.alloc (.cells #[.int .i64 f0, .int .i64 f1, .int .i64 f2, .int .i64 f3, .int .i64 f4, .int .i64 f5, .string f6, .int .i64 f7, .string f8] 25)) g _ (by rw [hg]; rfl : #[.int .i64 g0, .int .i64 g1, .int .i64 g2, .int .i64 g3, .int .i64 g4, .int .i64 g5, .string g6, .int .i64 g7, .string g8] = _)
    rw [World.size_alloc] at this
    exact this
  have RA : Hid (RowF ((w.alloc (.cells #[.int .i64 f0, .int .i64 f1, .int .i64 f2, .int .i64 f3, .int .i64 f4, .int .i64 f5, .string f6, .int .i64 f7, .string f8] 25)).alloc (.cells #[.int .i64 g0, .int .i64 g1, .int .i64 g2, .int .i64 g3, .int .i64 g4, .int .i64 g5, .string g6, .int .i64 g7, .string g8] 25)) a fn len) := ra.below B1.out
  clear hf hg ra
  go_enter Try.func5, Try.ntmps5
  go_wp2_with fail
  obtain ⟨w1, hw1⟩ : ∃ w1, w1 = (w.alloc (.cells #[.int .i64 f0, .int .i64 f1, .int .i64 f2, .int .i64 f3, .int .i64 f4, .int .i64 f5, .string f6, .int .i64 f7, .string f8] 25)).alloc (.cells #[.int .i64 g0, .int .i64 g1, .int .i64 g2, .int .i64 g3, .int .i64 g4, .int .i64 g5, .string g6, .int .i64 g7, .string g8] 25) := ⟨_, rfl⟩
  obtain ⟨B, hB⟩ : ∃ B, B = w.heap.size + 1 := ⟨_, rfl⟩
  obtain ⟨A, hA⟩ : ∃ A, A = w.heap.size := ⟨_, rfl⟩
  rw [← hw1] at B1 FA FG RA ⊢
  rw [← hB] at FG ⊢
  rw [← hA] at FA ⊢
  clear hw1 hA hB
  refine (LF.out _).mono ?_
  rintro e w2 ⟨rfl, b2⟩
  have FA2 : Hid (FrmAt w2 A f) := FA.out.up b2
  have FG2 : Hid (FrmAt w2 B g) := FG.out.up b2
  have RA2 : Hid (RowF w2 a fn len) := RA.out.below b2
  have B2 : Hid (Below w.heap.size w w2) := B1.out.trans (b2.mono B1.out.size)
  clear b2 FA FG RA B1 LF
  cases hl : ltF f
  · go_wp2_with fail
    refine (runs_any _).mono ?_
    rintro e w3 ⟨rfl, b3⟩
    have B3 : Hid (Below w.heap.size w w3) := B2.out.trans (b3.mono B2.out.size)
    clear b3
    go_wp2_with fail
    go_ret
    exact ⟨rfl, B3.out⟩
  have hsf : f.key.size + f.data.size < 2000 := by
    unfold ltF at hl
    have := of_decide_eq_true hl
    omega
  have HSF : Hid (f.key.size + f.data.size < 2000) := hsf
  clear hl hsf
  have u0 : w2.cell? ⟨B, 0, none⟩ = some (.int .i64 g0) := FG2.out.cells 0 _ (by rw [HG.out]; rfl)
  have u1 : w2.cell? ⟨B, 1, none⟩ = some (.int .i64 g1) := FG2.out.cells 1 _ (by rw [HG.out]; rfl)
  have u2 : w2.cell? ⟨B, 2, none⟩ = some (.int .i64 g2) := FG2.out.cells 2 _ (by rw [HG.out]; rfl)
  have u3 : w2.cell? ⟨B, 3, none⟩ = some (.int .i64 g3) := FG2.out.cells 3 _ (by rw [HG.out]; rfl)
  have u4 : w2.cell? ⟨B, 4, none⟩ = some (.int .i64 g4) := FG2.out.cells 4 _ (by rw [HG.out]; rfl)
  have u5 : w2.cell? ⟨B, 5, none⟩ = some (.int .i64 g5) := FG2.out.cells 5 _ (by rw [HG.out]; rfl)
  have u6 : w2.cell? ⟨B, 6, none⟩ = some (.string g6) := FG2.out.cells 6 _ (by rw [HG.out]; rfl)
  have u7 : w2.cell? ⟨B, 7, none⟩ = some (.int .i64 g7) := FG2.out.cells 7 _ (by rw [HG.out]; rfl)
  have u8 : w2.cell? ⟨B, 8, none⟩ = some (.string g8) := FG2.out.cells 8 _ (by rw [HG.out]; rfl)
  go_wp2_with fail
  refine (LG.out _).mono ?_
  rintro e w3 ⟨rfl, b3⟩
  have FA3 : Hid (FrmAt w3 A f) := FA2.out.up b3
  have FG3 : Hid (FrmAt w3 B g) := FG2.out.up b3
  have RA3 : Hid (RowF w3 a fn len) := RA2.out.below b3
  have B3 : Hid (Below w.heap.size w w3) := B2.out.trans (b3.mono B2.out.size)
  clear b3 FA2 FG2 RA2 B2 LG u0 u1 u2 u3 u4 u5 u6 u7 u8
  cases hl : ltF g
  · go_wp2_with fail
    refine (runs_any _).mono ?_
    rintro e w4 ⟨rfl, b4⟩
    have B4 : Hid (Below w.heap.size w w4) := B3.out.trans (b4.mono B3.out.size)
    clear b4
    go_wp2_with fail
    go_ret
    exact ⟨rfl, B4.out⟩
  have hsg : g.key.size + g.data.size < 2000 := by
    unfold ltF at hl
    have := of_decide_eq_true hl
    omega
  have HSG : Hid (g.key.size + g.data.size < 2000) := hsg
  clear hl hsg
  go_wp2_with fail
  refine (get_any a len cap fn FB.out (by omega) _ RA3.out).mono ?_
  rintro e w4 ⟨rfl, b4⟩
  obtain ⟨q, hq⟩ : ∃ q, q = gt fn len := ⟨_, rfl⟩
  rw [← hq]
  have HQ : Hid (q = gt fn len) := hq
  obtain ⟨x, k⟩ := q
  have PX : Hid (∀ w, Calls Try.prog 6 #[x.v] w fun e w' => ∃ v, e = .returned v ∧ OwnC w' w.heap.size v (byF x) ∧ Below w.heap.size w w' ∧ (rt x = false → v = .slice none 0 0)) := put_any x
  have HX : Hid (k = 0 → byF x = tab fn len) := fun hk => gt_bytes FB.out (by rw [← hq, hk])
  clear hq HQ
  obtain ⟨byx, hbyx⟩ : ∃ l, l = byF x := ⟨_, rfl⟩
  rw [← hbyx] at PX HX
  clear hbyx
  obtain ⟨x0, x1, x2, x3, x4, x5, x6, x7, x8⟩ := x
  simp only [F.v, F.cs] at PX ⊢
  have b5 : Below w3.heap.size w3 (w4.alloc (.cells #[.int .i64 x0, .int .i64 x1, .int .i64 x2, .int .i64 x3, .int .i64 x4, .int .i64 x5, .string x6, .int .i64 x7, .string x8] 25)) := b4.alloc b4.size _
  have FA4 : Hid (FrmAt (w4.alloc (.cells #[.int .i64 x0, .int .i64 x1, .int .i64 x2, .int .i64 x3, .int .i64 x4, .int .i64 x5, .string x6, .int .i64 x7, .string x8] 25)) A f) := FA3.out.up b5
  have FG4 : Hid (FrmAt (w4.alloc (.cells #[.int .i64 x0, .int .i64 x1, .int .i64 x2, .int .i64 x3, .int .i64 x4, .int .i64 x5, .string x6, .int .i64 x7, .string x8] 25)) B g) := FG3.out.up b5
  have RA4 : Hid (RowF (w4.alloc (.cells #[.int .i64 x0, .int .i64 x1, .int .i64 x2, .int .i64 x3, .int .i64 x4, .int .i64 x5, .string x6, .int .i64 x7, .string x8] 25)) a fn len) := RA3.out.below b5
  have B4 : Hid (Below w.heap.size w (w4.alloc (.cells #[.int .i64 x0, .int .i64 x1, .int .i64 x2, .int .i64 x3, .int .i64 x4, .int .i64 x5, .string x6, .int .i64 x7, .string x8] 25))) := B3.out.trans (b5.mono B3.out.size)
  clear b4 b5 FA3 FG3 RA3 B3
  have key : ∀ (w5 : World), Hid (FrmAt w5 A f) → Hid (FrmAt w5 B g) → Hid (Below w.heap.size w w5) → True := fun _ _ _ _ => trivial
  clear key
  go_upto_region 4 with fail
  go_cut [38] from 30 to 38 (fun v wx => v = .bool false ∧ Hid (FrmAt wx A f) ∧ Hid (FrmAt wx B g) ∧ Hid (Below w.heap.size w wx))
  case first =>
    by_cases hk : k = 0
    · subst hk
      have HX0 : Hid (byx = tab fn len) := HX.out rfl
      clear HX
      go_wp2_with fail
      refine (PX.out _).mono ?_
      rintro e w5 ⟨v5, rfl, o5, b5, _⟩
      rw [HX0.out] at o5
      obtain ⟨p5, c5, rfl, r5⟩ := own_row o5
      rw [tab_length] at r5 ⊢
      have R5 : Hid (RowF w5 p5 (lf (tab fn len)) len) := r5
      have RA5 : Hid (RowF w5 a (lf (tab fn len)) len) := (RA4.out.below b5).to_tab
      have FA5 : Hid (FrmAt w5 A f) := FA4.out.up b5
      have FG5 : Hid (FrmAt w5 B g) := FG4.out.up b5
      have B5 : Hid (Below w.heap.size w w5) := B4.out.trans (b5.mono B4.out.size)
      clear o5 b5 r5 FA4 FG4 RA4 B4
      go_wp2_with fail
      refine (same_ls p5 a len len c5 cap (tab fn len) (tab fn len) (tab_length _ _).symm (tab_length _ _).symm (by rw [tab_length]; exact hlen) true (by simp) _ R5.out RA5.out).mono ?_
      rintro e w6 ⟨rfl, b6⟩
      have FA6 : Hid (FrmAt w6 A f) := FA5.out.up b6
      have FG6 : Hid (FrmAt w6 B g) := FG5.out.up b6
      have B6 : Hid (Below w.heap.size w w6) := B5.out.trans (b6.mono B5.out.size)
      clear b6 FA5 FG5 RA5 B5 R5
      go_wp2_with fail
      go_meet
      exact ⟨rfl, FA6, FG6, B6⟩
    · have j1 : ((k : Int) == 0) = false := by simp; omega
      go_wp2_with fail
      go_meet
      exact ⟨rfl, FA4, FG4, B4⟩
  case rest =>
    obtain ⟨rfl, FA5, FG5, B5⟩ := hcut
    clear FA4 FG4 RA4 B4 PX HX
    have u0 : wc.cell? ⟨A, 0, none⟩ = some (.int .i64 f0) := FA5.out.cells 0 _ (by rw [HF.out]; rfl)
    have u1 : wc.cell? ⟨A, 1, none⟩ = some (.int .i64 f1) := FA5.out.cells 1 _ (by rw [HF.out]; rfl)
    have u2 : wc.cell? ⟨A, 2, none⟩ = some (.int .i64 f2) := FA5.out.cells 2 _ (by rw [HF.out]; rfl)
    have u3 : wc.cell? ⟨A, 3, none⟩ = some (.int .i64 f3) := FA5.out.cells 3 _ (by rw [HF.out]; rfl)
    have u4 : wc.cell? ⟨A, 4, none⟩ = some (.int .i64 f4) := FA5.out.cells 4 _ (by rw [HF.out]; rfl)
    have u5 : wc.cell? ⟨A, 5, none⟩ = some (.int .i64 f5) := FA5.out.cells 5 _ (by rw [HF.out]; rfl)
    have u6 : wc.cell? ⟨A, 6, none⟩ = some (.string f6) := FA5.out.cells 6 _ (by rw [HF.out]; rfl)
    have u7 : wc.cell? ⟨A, 7, none⟩ = some (.int .i64 f7) := FA5.out.cells 7 _ (by rw [HF.out]; rfl)
    have u8 : wc.cell? ⟨A, 8, none⟩ = some (.string f8) := FA5.out.cells 8 _ (by rw [HF.out]; rfl)
    go_wp2_with fail
    refine (PF.out _).mono ?_
    rintro e w6 ⟨v6, rfl, o6, b6, n6⟩
    have FA6 : Hid (FrmAt w6 A f) := FA5.out.up b6
    have FG6 : Hid (FrmAt w6 B g) := FG5.out.up b6
    have B6 : Hid (Below w.heap.size w w6) := B5.out.trans (b6.mono B5.out.size)
    have O6 : Hid (OwnC w6 wc.heap.size v6 (byF f)) := o6
    have N6 : Hid (rt f = false → v6 = .slice none 0 0) := n6
    clear FA5 FG5 B5 b6 o6 n6 u0 u1 u2 u3 u4 u5 u6 u7 u8
    have u0 : w6.cell? ⟨A, 0, none⟩ = some (.int .i64 f0) := FA6.out.cells 0 _ (by rw [HF.out]; rfl)
    have u1 : w6.cell? ⟨A, 1, none⟩ = some (.int .i64 f1) := FA6.out.cells 1 _ (by rw [HF.out]; rfl)
    have u2 : w6.cell? ⟨A, 2, none⟩ = some (.int .i64 f2) := FA6.out.cells 2 _ (by rw [HF.out]; rfl)
    have u3 : w6.cell? ⟨A, 3, none⟩ = some (.int .i64 f3) := FA6.out.cells 3 _ (by rw [HF.out]; rfl)
    have u4 : w6.cell? ⟨A, 4, none⟩ = some (.int .i64 f4) := FA6.out.cells 4 _ (by rw [HF.out]; rfl)
    have u5 : w6.cell? ⟨A, 5, none⟩ = some (.int .i64 f5) := FA6.out.cells 5 _ (by rw [HF.out]; rfl)
    have u6 : w6.cell? ⟨A, 6, none⟩ = some (.string f6) := FA6.out.cells 6 _ (by rw [HF.out]; rfl)
    have u7 : w6.cell? ⟨A, 7, none⟩ = some (.int .i64 f7) := FA6.out.cells 7 _ (by rw [HF.out]; rfl)
    have u8 : w6.cell? ⟨A, 8, none⟩ = some (.string f8) := FA6.out.cells 8 _ (by rw [HF.out]; rfl)
    obtain ⟨p6, c6, hv6, hc6, r6⟩ := O6.out.row
    obtain ⟨l, hl⟩ : ∃ l, l = byF f := ⟨_, rfl⟩
    rw [← hl] at hv6 hc6 r6
    obtain ⟨m, hm⟩ : ∃ m, m = l.length := ⟨_, rfl⟩
    rw [← hm] at hv6 hc6 r6
    have HV6 : Hid (v6 = .slice p6 m c6) := hv6
    subst hv6
    have HL : Hid (l = byF f) := hl
    have HM : Hid (m = l.length) := hm
    have R6 : Hid (RowF w6 p6 (lf l) m) := r6
    clear hl hm r6 O6
    go_wp2_with fail
    refine (RF.out _).mono ?_
    rintro e w7 ⟨rfl, b7⟩
    have FA7 : Hid (FrmAt w7 A f) := FA6.out.up b7
    have FG7 : Hid (FrmAt w7 B g) := FG6.out.up b7
    have B7 : Hid (Below w.heap.size w w7) := B6.out.trans (b7.mono B6.out.size)
    have R7 : Hid (RowF w7 p6 (lf l) m) := R6.out.below b7
    clear FA6 FG6 B6 b7 R6 u0 u1 u2 u3 u4 u5 u6 u7 u8
    cases hr : rt f
    · have e6 := N6.out hr
      injection e6 with e61 e62 e63
      have hm0 : m = 0 := e62
      subst hm0
      go_wp2_with fail
      refine (runs_any _).mono ?_
      rintro e w8 ⟨rfl, b8⟩
      have B8 : Hid (Below w.heap.size w w8) := B7.out.trans (b8.mono B7.out.size)
      clear b8
      go_wp2_with fail
      go_ret
      exact ⟨rfl, B8.out⟩
    have HR : Hid (rt f = true) := hr
    have el : l = encF f := by rw [HL.out, byF, if_pos hr]
    subst el
    have hm2 : m ≤ 3000 := by
      have e1 := encF_len f hr
      have e2 := HM.out
      have e3 := HSF.out
      omega
    have GB : Hid (gt (lf (encF f)) m = (f, 0)) := by rw [HM.out]; exact gt_back hr
    have hm0 : 0 < m := by
      rw [HM.out]
      have : 0 < (encs f.nums).length := by
        rw [HF.out]
        have := enc_ne (fold f0)
        simp only [encs, F.nums, List.flatMap_cons, List.length_append]
        omega
      unfold encF
      rw [List.length_append]; omega
    clear hr N6 HV6
    go_wp2_with fail
    refine (get_any p6 m c6 (lf (encF f)) (encF_lt f) (by omega) _ R7.out).mono ?_
    rintro e w8 ⟨rfl, b8⟩
    rw [GB.out, HF.out]
    simp only [F.v, F.cs]
    have b9 : Below w7.heap.size w7 (w8.alloc (.cells #[.int .i64 f0, .int .i64 f1, .int .i64 f2, .int .i64 f3, .int .i64 f4, .int .i64 f5, .string f6, .int .i64 f7, .string f8] 25)) := b8.alloc b8.size _
    have FX9 : Hid (FrmAt (w8.alloc (.cells #[.int .i64 f0, .int .i64 f1, .int .i64 f2, .int .i64 f3, .int .i64 f4, .int .i64 f5, .string f6, .int .i64 f7, .string f8] 25)) w8.heap.size f) := FrmAt.new w8 f _ (by rw [HF.out]; rfl)
    have FA9 : Hid (FrmAt (w8.alloc (.cells #[.int .i64 f0, .int .i64 f1, .int .i64 f2, .int .i64 f3, .int .i64 f4, .int .i64 f5, .string f6, .int .i64 f7, .string f8] 25)) A f) := FA7.out.up b9
    have FG9 : Hid (FrmAt (w8.alloc (.cells #[.int .i64 f0, .int .i64 f1, .int .i64 f2, .int .i64 f3, .int .i64 f4, .int .i64 f5, .string f6, .int .i64 f7, .string f8] 25)) B g) := FG7.out.up b9
    have B9 : Hid (Below w.heap.size w (w8.alloc (.cells #[.int .i64 f0, .int .i64 f1, .int .i64 f2, .int .i64 f3, .int .i64 f4, .int .i64 f5, .string f6, .int .i64 f7, .string f8] 25))) := B7.out.trans (b9.mono B7.out.size)
    have R9 : Hid (RowF (w8.alloc (.cells #[.int .i64 f0, .int .i64 f1, .int .i64 f2, .int .i64 f3, .int .i64 f4, .int .i64 f5, .string f6, .int .i64 f7, .string f8] 25)) p6 (lf (encF f)) m) := R7.out.below b9
    clear b8 b9 FA7 FG7 B7 R7
    go_wp2_with fail
    obtain ⟨w9, hw9⟩ : ∃ w9, w9 = w8.alloc (.cells #[.int .i64 f0, .int .i64 f1, .int .i64 f2, .int .i64 f3, .int .i64 f4, .int .i64 f5, .string f6, .int .i64 f7, .string f8] 25) := ⟨_, rfl⟩
    obtain ⟨C, hC⟩ : ∃ C, C = w8.heap.size := ⟨_, rfl⟩
    rw [← hw9] at FX9 FA9 FG9 B9 R9 ⊢
    rw [← hC] at FX9 ⊢
    clear hw9 hC
    refine (within_c cut 0 ((m : Int) - 1) (m - 1) rfl (by omega) (by omega) _).mono ?_
    rintro e w10 ⟨⟨k2, hk2, rfl⟩, rfl⟩
    have sh := slice_hi p6 m c6 k2 (by omega)
    obtain ⟨sa, hsa⟩ : ∃ sa, sa = sl p6 0 c6 := ⟨_, rfl⟩
    rw [← hsa] at sh
    have RS : Hid (RowF w10 sa (lf (encF f)) k2) := by rw [hsa]; exact R9.out.head k2 c6 (by omega) hc6
    have HD : Hid ((gt (lf (encF f)) k2).2 ≠ 0) := gt_cut HR.out (by rw [← HM.out]; omega)
    clear hsa
    go_wp2_with fail
    refine (get_any sa k2 c6 (lf (encF f)) (encF_lt f) (by omega) _ RS.out).mono ?_
    rintro e w11 ⟨rfl, b11⟩
    obtain ⟨q, hq⟩ : ∃ q, q = gt (lf (encF f)) k2 := ⟨_, rfl⟩
    rw [← hq] at HD ⊢
    clear hq
    obtain ⟨y, d⟩ := q
    obtain ⟨y0, y1, y2, y3, y4, y5, y6, y7, y8⟩ := y
    have hd : d ≠ 0 := HD.out
    simp only [F.v, F.cs]
    have b12 : Below w10.heap.size w10 (w11.alloc (.cells #[.int .i64 y0, .int .i64 y1, .int .i64 y2, .int .i64 y3, .int .i64 y4, .int .i64 y5, .string y6, .int .i64 y7, .string y8] 25)) := b11.alloc b11.size _
    have FX12 : Hid (FrmAt (w11.alloc (.cells #[.int .i64 y0, .int .i64 y1, .int .i64 y2, .int .i64 y3, .int .i64 y4, .int .i64 y5, .string y6, .int .i64 y7, .string y8] 25)) C f) := FX9.out.up b12
    have FA12 : Hid (FrmAt (w11.alloc (.cells #[.int .i64 y0, .int .i64 y1, .int .i64 y2, .int .i64 y3, .int .i64 y4, .int .i64 y5, .string y6, .int .i64 y7, .string y8] 25)) A f) := FA9.out.up b12
    have FG12 : Hid (FrmAt (w11.alloc (.cells #[.int .i64 y0, .int .i64 y1, .int .i64 y2, .int .i64 y3, .int .i64 y4, .int .i64 y5, .string y6, .int .i64 y7, .string y8] 25)) B g) := FG9.out.up b12
    have B12 : Hid (Below w.heap.size w (w11.alloc (.cells #[.int .i64 y0, .int .i64 y1, .int .i64 y2, .int .i64 y3, .int .i64 y4, .int .i64 y5, .string y6, .int .i64 y7, .string y8] 25))) := B9.out.trans (b12.mono B9.out.size)
    have R12 : Hid (RowF (w11.alloc (.cells #[.int .i64 y0, .int .i64 y1, .int .i64 y2, .int .i64 y3, .int .i64 y4, .int .i64 y5, .string y6, .int .i64 y7, .string y8] 25)) p6 (lf (encF f)) m) := R9.out.below b12
    clear b11 b12 FX9 FA9 FG9 B9 R9 RS HD sh
    go_wp2_with fail
    obtain ⟨w12, hw12⟩ : ∃ w12, w12 = w11.alloc (.cells #[.int .i64 y0, .int .i64 y1, .int .i64 y2, .int .i64 y3, .int .i64 y4, .int .i64 y5, .string y6, .int .i64 y7, .string y8] 25) := ⟨_, rfl⟩
    rw [← hw12] at FX12 FA12 FG12 B12 R12 ⊢
    clear hw12
    have j1 : ((d : Int) != 0) = true := by simp; omega
    cases hrg : rt g
    · have HRG : rt ⟨g0, g1, g2, g3, g4, g5, g6, g7, g8⟩ = false := by rw [← HG.out]; exact hrg
      obtain ⟨Y, eY, yB⟩ : ∃ Y, Y = ({ w12 with drawn := w12.drawn + 1 } : World) ∧ Below w12.heap.size w12 Y := ⟨_, rfl, below_drewN (Below.refl _ _) 1⟩
      have FXY := FX12.out.up yB
      have FAY := FA12.out.up yB
      have FGY := FG12.out.up yB
      have YB : Hid (Below w.heap.size w Y) := B12.out.trans (yB.mono B12.out.size)
      have kC0 : ∀ s : Up Y, s.w.cell? ⟨C, 0, none⟩ = some (.int .i64 f0) := fun s => s.cell (FXY.cells 0 _ (by rw [HF.out]; rfl))
      have kC1 : ∀ s : Up Y, s.w.cell? ⟨C, 1, none⟩ = some (.int .i64 f1) := fun s => s.cell (FXY.cells 1 _ (by rw [HF.out]; rfl))
      have kC2 : ∀ s : Up Y, s.w.cell? ⟨C, 2, none⟩ = some (.int .i64 f2) := fun s => s.cell (FXY.cells 2 _ (by rw [HF.out]; rfl))
      have kC3 : ∀ s : Up Y, s.w.cell? ⟨C, 3, none⟩ = some (.int .i64 f3) := fun s => s.cell (FXY.cells 3 _ (by rw [HF.out]; rfl))
      have kC4 : ∀ s : Up Y, s.w.cell? ⟨C, 4, none⟩ = some (.int .i64 f4) := fun s => s.cell (FXY.cells 4 _ (by rw [HF.out]; rfl))
      have kC5 : ∀ s : Up Y, s.w.cell? ⟨C, 5, none⟩ = some (.int .i64 f5) := fun s => s.cell (FXY.cells 5 _ (by rw [HF.out]; rfl))
      have kC6 : ∀ s : Up Y, s.w.cell? ⟨C, 6, none⟩ = some (.string f6) := fun s => s.cell (FXY.cells 6 _ (by rw [HF.out]; rfl))
      have kC7 : ∀ s : Up Y, s.w.cell? ⟨C, 7, none⟩ = some (.int .i64 f7) := fun s => s.cell (FXY.cells 7 _ (by rw [HF.out]; rfl))
      have kC8 : ∀ s : Up Y, s.w.cell? ⟨C, 8, none⟩ = some (.string f8) := fun s => s.cell (FXY.cells 8 _ (by rw [HF.out]; rfl))
      have kA0 : ∀ s : Up Y, s.w.cell? ⟨A, 0, none⟩ = some (.int .i64 f0) := fun s => s.cell (FAY.cells 0 _ (by rw [HF.out]; rfl))
      have kA1 : ∀ s : Up Y, s.w.cell? ⟨A, 1, none⟩ = some (.int .i64 f1) := fun s => s.cell (FAY.cells 1 _ (by rw [HF.out]; rfl))
      have kA2 : ∀ s : Up Y, s.w.cell? ⟨A, 2, none⟩ = some (.int .i64 f2) := fun s => s.cell (FAY.cells 2 _ (by rw [HF.out]; rfl))
      have kA3 : ∀ s : Up Y, s.w.cell? ⟨A, 3, none⟩ = some (.int .i64 f3) := fun s => s.cell (FAY.cells 3 _ (by rw [HF.out]; rfl))
      have kA4 : ∀ s : Up Y, s.w.cell? ⟨A, 4, none⟩ = some (.int .i64 f4) := fun s => s.cell (FAY.cells 4 _ (by rw [HF.out]; rfl))
      have kA5 : ∀ s : Up Y, s.w.cell? ⟨A, 5, none⟩ = some (.int .i64 f5) := fun s => s.cell (FAY.cells 5 _ (by rw [HF.out]; rfl))
      have kA6 : ∀ s : Up Y, s.w.cell? ⟨A, 6, none⟩ = some (.string f6) := fun s => s.cell (FAY.cells 6 _ (by rw [HF.out]; rfl))
      have kA7 : ∀ s : Up Y, s.w.cell? ⟨A, 7, none⟩ = some (.int .i64 f7) := fun s => s.cell (FAY.cells 7 _ (by rw [HF.out]; rfl))
      have kA8 : ∀ s : Up Y, s.w.cell? ⟨A, 8, none⟩ = some (.string f8) := fun s => s.cell (FAY.cells 8 _ (by rw [HF.out]; rfl))
      have kB0 : ∀ s : Up Y, s.w.cell? ⟨B, 0, none⟩ = some (.int .i64 g0) := fun s => s.cell (FGY.cells 0 _ (by rw [HG.out]; rfl))
      have kB1 : ∀ s : Up Y, s.w.cell? ⟨B, 1, none⟩ = some (.int .i64 g1) := fun s => s.cell (FGY.cells 1 _ (by rw [HG.out]; rfl))
      have kB2 : ∀ s : Up Y, s.w.cell? ⟨B, 2, none⟩ = some (.int .i64 g2) := fun s => s.cell (FGY.cells 2 _ (by rw [HG.out]; rfl))
      have kB3 : ∀ s : Up Y, s.w.cell? ⟨B, 3, none⟩ = some (.int .i64 g3) := fun s => s.cell (FGY.cells 3 _ (by rw [HG.out]; rfl))
      have kB4 : ∀ s : Up Y, s.w.cell? ⟨B, 4, none⟩ = some (.int .i64 g4) := fun s => s.cell (FGY.cells 4 _ (by rw [HG.out]; rfl))
      have kB5 : ∀ s : Up Y, s.w.cell? ⟨B, 5, none⟩ = some (.int .i64 g5) := fun s => s.cell (FGY.cells 5 _ (by rw [HG.out]; rfl))
      have kB6 : ∀ s : Up Y, s.w.cell? ⟨B, 6, none⟩ = some (.string g6) := fun s => s.cell (FGY.cells 6 _ (by rw [HG.out]; rfl))
      have kB7 : ∀ s : Up Y, s.w.cell? ⟨B, 7, none⟩ = some (.int .i64 g7) := fun s => s.cell (FGY.cells 7 _ (by rw [HG.out]; rfl))
      have kB8 : ∀ s : Up Y, s.w.cell? ⟨B, 8, none⟩ = some (.string g8) := fun s => s.cell (FGY.cells 8 _ (by rw [HG.out]; rfl))
      clear FXY FAY FGY yB FX12 FA12 FG12 B12 R12 PF PG RF RG EQG hrg hm2 hm0 hc6 hk2
      refine region_up (by kernel_rfl) (by kernel_rfl) Y eY ?_
      clear eY
      have ne : Nonempty (Up Y) := ⟨⟨Y, Below.refl _ _⟩⟩
      repeat (go_big_quiet_step (first | exact right_up _ _ _ _ _ _ _ _ _ _ _ HRG | exact runs_up _))
      refine wpQuiet_nil ?_
      rintro w13 ⟨s13, rfl⟩
      have fB : Below w.heap.size w s13.w := YB.out.trans (s13.h.mono YB.out.size)
      go_wp2_with fail
      go_ret
      exact ⟨rfl, fB⟩
    · have HRG : Hid (rt g = true) := hrg
      obtain ⟨bb, hbb⟩ : ∃ bb : Bool, bb = true ↔ f = g := ⟨@decide (f = g) (Classical.propDecidable _), by simp⟩
      have HB2 : Hid (bb = true ↔ encF f = encF g) := ⟨fun h => by rw [hbb.1 h], fun h => hbb.2 (encF_inj HR.out hrg h)⟩
      have EQ2 : ∀ w, (binOp .eql 25 (.agg #[.int .i64 f0, .int .i64 f1, .int .i64 f2, .int .i64 f3, .int .i64 f4, .int .i64 f5, .string f6, .int .i64 f7, .string f8]) (.agg #[.int .i64 g0, .int .i64 g1, .int .i64 g2, .int .i64 g3, .int .i64 g4, .int .i64 g5, .string g6, .int .i64 g7, .string g8])).run Try.prog w = .ok (.bool bb) w := fun w => EQG.out w bb hbb
      have HYG : Hid (byF g = encF g) := by show _ = _; unfold byF; rw [if_pos hrg]
      have bbq : (bb == bb) = true := by simp
      obtain ⟨n14, hn14⟩ : ∃ n, n = (encF g).length := ⟨_, rfl⟩
      have HN14 : Hid (n14 = (encF g).length) := hn14
      have bD : Below w12.heap.size w12 w12.drew := (Below.refl _ _).drew
      have FXD : Hid (FrmAt w12.drew C f) := FX12.out.up bD
      have FAD : Hid (FrmAt w12.drew A f) := FA12.out.up bD
      have FGD : Hid (FrmAt w12.drew B g) := FG12.out.up bD
      have BD : Hid (Below w.heap.size w w12.drew) := B12.out.trans (bD.mono B12.out.size)
      have RD : Hid (RowF w12.drew p6 (lf (encF f)) m) := R12.out.below bD
      have HM2 : Hid (m ≤ 3000) := hm2
      have S0 : w12.drew.cell? ⟨C, 0, none⟩ = some (.int .i64 f0) ∧ w12.drew.cell? ⟨C, 1, none⟩ = some (.int .i64 f1) ∧ w12.drew.cell? ⟨C, 2, none⟩ = some (.int .i64 f2) ∧ w12.drew.cell? ⟨C, 3, none⟩ = some (.int .i64 f3) ∧ w12.drew.cell? ⟨C, 4, none⟩ = some (.int .i64 f4) ∧ w12.drew.cell? ⟨C, 5, none⟩ = some (.int .i64 f5) ∧ w12.drew.cell? ⟨C, 6, none⟩ = some (.string f6) ∧ w12.drew.cell? ⟨C, 7, none⟩ = some (.int .i64 f7) ∧ w12.drew.cell? ⟨C, 8, none⟩ = some (.string f8) ∧ w12.drew.cell? ⟨A, 0, none⟩ = some (.int .i64 f0) ∧ w12.drew.cell? ⟨A, 1, none⟩ = some (.int .i64 f1) ∧ w12.drew.cell? ⟨A, 2, none⟩ = some (.int .i64 f2) ∧ w12.drew.cell? ⟨A, 3, none⟩ = some (.int .i64 f3) ∧ w12.drew.cell? ⟨A, 4, none⟩ = some (.int .i64 f4) ∧ w12.drew.cell? ⟨A, 5, none⟩ = some (.int .i64 f5) ∧ w12.drew.cell? ⟨A, 6, none⟩ = some (.string f6) ∧ w12.drew.cell? ⟨A, 7, none⟩ = some (.int .i64 f7) ∧ w12.drew.cell? ⟨A, 8, none⟩ = some (.string f8) ∧ w12.drew.cell? ⟨B, 0, none⟩ = some (.int .i64 g0) ∧ w12.drew.cell? ⟨B, 1, none⟩ = some (.int .i64 g1) ∧ w12.drew.cell? ⟨B, 2, none⟩ = some (.int .i64 g2) ∧ w12.drew.cell? ⟨B, 3, none⟩ = some (.int .i64 g3) ∧ w12.drew.cell? ⟨B, 4, none⟩ = some (.int .i64 g4) ∧ w12.drew.cell? ⟨B, 5, none⟩ = some (.int .i64 g5) ∧ w12.drew.cell? ⟨B, 6, none⟩ = some (.string g6) ∧ w12.drew.cell? ⟨B, 7, none⟩ = some (.int .i64 g7) ∧ w12.drew.cell? ⟨B, 8, none⟩ = some (.string g8) := ⟨FXD.out.cells 0 _ (by rw [HF.out]; rfl), FXD.out.cells 1 _ (by rw [HF.out]; rfl), FXD.out.cells 2 _ (by rw [HF.out]; rfl), FXD.out.cells 3 _ (by rw [HF.out]; rfl), FXD.out.cells 4 _ (by rw [HF.out]; rfl), FXD.out.cells 5 _ (by rw [HF.out]; rfl), FXD.out.cells 6 _ (by rw [HF.out]; rfl), FXD.out.cells 7 _ (by rw [HF.out]; rfl), FXD.out.cells 8 _ (by rw [HF.out]; rfl), FAD.out.cells 0 _ (by rw [HF.out]; rfl), FAD.out.cells 1 _ (by rw [HF.out]; rfl), FAD.out.cells 2 _ (by rw [HF.out]; rfl), FAD.out.cells 3 _ (by rw [HF.out]; rfl), FAD.out.cells 4 _ (by rw [HF.out]; rfl), FAD.out.cells 5 _ (by rw [HF.out]; rfl), FAD.out.cells 6 _ (by rw [HF.out]; rfl), FAD.out.cells 7 _ (by rw [HF.out]; rfl), FAD.out.cells 8 _ (by rw [HF.out]; rfl), FGD.out.cells 0 _ (by rw [HG.out]; rfl), FGD.out.cells 1 _ (by rw [HG.out]; rfl), FGD.out.cells 2 _ (by rw [HG.out]; rfl), FGD.out.cells 3 _ (by rw [HG.out]; rfl), FGD.out.cells 4 _ (by rw [HG.out]; rfl), FGD.out.cells 5 _ (by rw [HG.out]; rfl), FGD.out.cells 6 _ (by rw [HG.out]; rfl), FGD.out.cells 7 _ (by rw [HG.out]; rfl), FGD.out.cells 8 _ (by rw [HG.out]; rfl)⟩
      clear bD FX12 FA12 FG12 B12 R12 hrg hbb hn14 EQG RF PF hm2 hm0 hc6 hk2
      go_region_held3 (fun w' => w'.cell? ⟨C, 0, none⟩ = some (.int .i64 f0) ∧ w'.cell? ⟨C, 1, none⟩ = some (.int .i64 f1) ∧ w'.cell? ⟨C, 2, none⟩ = some (.int .i64 f2) ∧ w'.cell? ⟨C, 3, none⟩ = some (.int .i64 f3) ∧ w'.cell? ⟨C, 4, none⟩ = some (.int .i64 f4) ∧ w'.cell? ⟨C, 5, none⟩ = some (.int .i64 f5) ∧ w'.cell? ⟨C, 6, none⟩ = some (.string f6) ∧ w'.cell? ⟨C, 7, none⟩ = some (.int .i64 f7) ∧ w'.cell? ⟨C, 8, none⟩ = some (.string f8) ∧ w'.cell? ⟨A, 0, none⟩ = some (.int .i64 f0) ∧ w'.cell? ⟨A, 1, none⟩ = some (.int .i64 f1) ∧ w'.cell? ⟨A, 2, none⟩ = some (.int .i64 f2) ∧ w'.cell? ⟨A, 3, none⟩ = some (.int .i64 f3) ∧ w'.cell? ⟨A, 4, none⟩ = some (.int .i64 f4) ∧ w'.cell? ⟨A, 5, none⟩ = some (.int .i64 f5) ∧ w'.cell? ⟨A, 6, none⟩ = some (.string f6) ∧ w'.cell? ⟨A, 7, none⟩ = some (.int .i64 f7) ∧ w'.cell? ⟨A, 8, none⟩ = some (.string f8) ∧ w'.cell? ⟨B, 0, none⟩ = some (.int .i64 g0) ∧ w'.cell? ⟨B, 1, none⟩ = some (.int .i64 g1) ∧ w'.cell? ⟨B, 2, none⟩ = some (.int .i64 g2) ∧ w'.cell? ⟨B, 3, none⟩ = some (.int .i64 g3) ∧ w'.cell? ⟨B, 4, none⟩ = some (.int .i64 g4) ∧ w'.cell? ⟨B, 5, none⟩ = some (.int .i64 g5) ∧ w'.cell? ⟨B, 6, none⟩ = some (.string g6) ∧ w'.cell? ⟨B, 7, none⟩ = some (.int .i64 g7) ∧ w'.cell? ⟨B, 8, none⟩ = some (.string g8))
        (first | with_reducible exact S0 | with_reducible exact S1 | with_reducible exact S2 | with_reducible exact S3 | with_reducible exact S4)
        (first
          | (go_at_call 15; refine (RG.out _).mono ?_; rintro e w13 ⟨rfl, b13⟩; rw [HRG.out]; have FX13 : Hid (FrmAt w13 C f) := FXD.out.up b13; have FA13 : Hid (FrmAt w13 A f) := FAD.out.up b13; have FG13 : Hid (FrmAt w13 B g) := FGD.out.up b13; have B13 : Hid (Below w.heap.size w w13) := BD.out.trans (b13.mono BD.out.size); have R13 : Hid (RowF w13 p6 (lf (encF f)) m) := RD.out.below b13; have S1 : w13.cell? ⟨C, 0, none⟩ = some (.int .i64 f0) ∧ w13.cell? ⟨C, 1, none⟩ = some (.int .i64 f1) ∧ w13.cell? ⟨C, 2, none⟩ = some (.int .i64 f2) ∧ w13.cell? ⟨C, 3, none⟩ = some (.int .i64 f3) ∧ w13.cell? ⟨C, 4, none⟩ = some (.int .i64 f4) ∧ w13.cell? ⟨C, 5, none⟩ = some (.int .i64 f5) ∧ w13.cell? ⟨C, 6, none⟩ = some (.string f6) ∧ w13.cell? ⟨C, 7, none⟩ = some (.int .i64 f7) ∧ w13.cell? ⟨C, 8, none⟩ = some (.string f8) ∧ w13.cell? ⟨A, 0, none⟩ = some (.int .i64 f0) ∧ w13.cell? ⟨A, 1, none⟩ = some (.int .i64 f1) ∧ w13.cell? ⟨A, 2, none⟩ = some (.int .i64 f2) ∧ w13.cell? ⟨A, 3, none⟩ = some (.int .i64 f3) ∧ w13.cell? ⟨A, 4, none⟩ = some (.int .i64 f4) ∧ w13.cell? ⟨A, 5, none⟩ = some (.int .i64 f5) ∧ w13.cell? ⟨A, 6, none⟩ = some (.string f6) ∧ w13.cell? ⟨A, 7, none⟩ = some (.int .i64 f7) ∧ w13.cell? ⟨A, 8, none⟩ = some (.string f8) ∧ w13.cell? ⟨B, 0, none⟩ = some (.int .i64 g0) ∧ w13.cell? ⟨B, 1, none⟩ = some (.int .i64 g1) ∧ w13.cell? ⟨B, 2, none⟩ = some (.int .i64 g2) ∧ w13.cell? ⟨B, 3, none⟩ = some (.int .i64 g3) ∧ w13.cell? ⟨B, 4, none⟩ = some (.int .i64 g4) ∧ w13.cell? ⟨B, 5, none⟩ = some (.int .i64 g5) ∧ w13.cell? ⟨B, 6, none⟩ = some (.string g6) ∧ w13.cell? ⟨B, 7, none⟩ = some (.int .i64 g7) ∧ w13.cell? ⟨B, 8, none⟩ = some (.string g8) := ⟨FX13.out.cells 0 _ (by rw [HF.out]; rfl), FX13.out.cells 1 _ (by rw [HF.out]; rfl), FX13.out.cells 2 _ (by rw [HF.out]; rfl), FX13.out.cells 3 _ (by rw [HF.out]; rfl), FX13.out.cells 4 _ (by rw [HF.out]; rfl), FX13.out.cells 5 _ (by rw [HF.out]; rfl), FX13.out.cells 6 _ (by rw [HF.out]; rfl), FX13.out.cells 7 _ (by rw [HF.out]; rfl), FX13.out.cells 8 _ (by rw [HF.out]; rfl), FA13.out.cells 0 _ (by rw [HF.out]; rfl), FA13.out.cells 1 _ (by rw [HF.out]; rfl), FA13.out.cells 2 _ (by rw [HF.out]; rfl), FA13.out.cells 3 _ (by rw [HF.out]; rfl), FA13.out.cells 4 _ (by rw [HF.out]; rfl), FA13.out.cells 5 _ (by rw [HF.out]; rfl), FA13.out.cells 6 _ (by rw [HF.out]; rfl), FA13.out.cells 7 _ (by rw [HF.out]; rfl), FA13.out.cells 8 _ (by rw [HF.out]; rfl), FG13.out.cells 0 _ (by rw [HG.out]; rfl), FG13.out.cells 1 _ (by rw [HG.out]; rfl), FG13.out.cells 2 _ (by rw [HG.out]; rfl), FG13.out.cells 3 _ (by rw [HG.out]; rfl), FG13.out.cells 4 _ (by rw [HG.out]; rfl), FG13.out.cells 5 _ (by rw [HG.out]; rfl), FG13.out.cells 6 _ (by rw [HG.out]; rfl), FG13.out.cells 7 _ (by rw [HG.out]; rfl), FG13.out.cells 8 _ (by rw [HG.out]; rfl)⟩; clear b13)
          | (go_at_call 6; refine (PG.out _).mono ?_; rintro e w14 ⟨v14, rfl, o14, b14, _⟩; rw [HYG.out] at o14; obtain ⟨p14, c14, rfl, r14⟩ := own_row o14; rw [← HN14.out] at r14 ⊢; have RG14 : Hid (RowF w14 p14 (lf (encF g)) n14) := r14; have FX14 : Hid (FrmAt w14 C f) := FX13.out.up b14; have FA14 : Hid (FrmAt w14 A f) := FA13.out.up b14; have FG14 : Hid (FrmAt w14 B g) := FG13.out.up b14; have B14 : Hid (Below w.heap.size w w14) := B13.out.trans (b14.mono B13.out.size); have R14 : Hid (RowF w14 p6 (lf (encF f)) m) := R13.out.below b14; have S2 : w14.cell? ⟨C, 0, none⟩ = some (.int .i64 f0) ∧ w14.cell? ⟨C, 1, none⟩ = some (.int .i64 f1) ∧ w14.cell? ⟨C, 2, none⟩ = some (.int .i64 f2) ∧ w14.cell? ⟨C, 3, none⟩ = some (.int .i64 f3) ∧ w14.cell? ⟨C, 4, none⟩ = some (.int .i64 f4) ∧ w14.cell? ⟨C, 5, none⟩ = some (.int .i64 f5) ∧ w14.cell? ⟨C, 6, none⟩ = some (.string f6) ∧ w14.cell? ⟨C, 7, none⟩ = some (.int .i64 f7) ∧ w14.cell? ⟨C, 8, none⟩ = some (.string f8) ∧ w14.cell? ⟨A, 0, none⟩ = some (.int .i64 f0) ∧ w14.cell? ⟨A, 1, none⟩ = some (.int .i64 f1) ∧ w14.cell? ⟨A, 2, none⟩ = some (.int .i64 f2) ∧ w14.cell? ⟨A, 3, none⟩ = some (.int .i64 f3) ∧ w14.cell? ⟨A, 4, none⟩ = some (.int .i64 f4) ∧ w14.cell? ⟨A, 5, none⟩ = some (.int .i64 f5) ∧ w14.cell? ⟨A, 6, none⟩ = some (.string f6) ∧ w14.cell? ⟨A, 7, none⟩ = some (.int .i64 f7) ∧ w14.cell? ⟨A, 8, none⟩ = some (.string f8) ∧ w14.cell? ⟨B, 0, none⟩ = some (.int .i64 g0) ∧ w14.cell? ⟨B, 1, none⟩ = some (.int .i64 g1) ∧ w14.cell? ⟨B, 2, none⟩ = some (.int .i64 g2) ∧ w14.cell? ⟨B, 3, none⟩ = some (.int .i64 g3) ∧ w14.cell? ⟨B, 4, none⟩ = some (.int .i64 g4) ∧ w14.cell? ⟨B, 5, none⟩ = some (.int .i64 g5) ∧ w14.cell? ⟨B, 6, none⟩ = some (.string g6) ∧ w14.cell? ⟨B, 7, none⟩ = some (.int .i64 g7) ∧ w14.cell? ⟨B, 8, none⟩ = some (.string g8) := ⟨FX14.out.cells 0 _ (by rw [HF.out]; rfl), FX14.out.cells 1 _ (by rw [HF.out]; rfl), FX14.out.cells 2 _ (by rw [HF.out]; rfl), FX14.out.cells 3 _ (by rw [HF.out]; rfl), FX14.out.cells 4 _ (by rw [HF.out]; rfl), FX14.out.cells 5 _ (by rw [HF.out]; rfl), FX14.out.cells 6 _ (by rw [HF.out]; rfl), FX14.out.cells 7 _ (by rw [HF.out]; rfl), FX14.out.cells 8 _ (by rw [HF.out]; rfl), FA14.out.cells 0 _ (by rw [HF.out]; rfl), FA14.out.cells 1 _ (by rw [HF.out]; rfl), FA14.out.cells 2 _ (by rw [HF.out]; rfl), FA14.out.cells 3 _ (by rw [HF.out]; rfl), FA14.out.cells 4 _ (by rw [HF.out]; rfl), FA14.out.cells 5 _ (by rw [HF.out]; rfl), FA14.out.cells 6 _ (by rw [HF.out]; rfl), FA14.out.cells 7 _ (by rw [HF.out]; rfl), FA14.out.cells 8 _ (by rw [HF.out]; rfl), FG14.out.cells 0 _ (by rw [HG.out]; rfl), FG14.out.cells 1 _ (by rw [HG.out]; rfl), FG14.out.cells 2 _ (by rw [HG.out]; rfl), FG14.out.cells 3 _ (by rw [HG.out]; rfl), FG14.out.cells 4 _ (by rw [HG.out]; rfl), FG14.out.cells 5 _ (by rw [HG.out]; rfl), FG14.out.cells 6 _ (by rw [HG.out]; rfl), FG14.out.cells 7 _ (by rw [HG.out]; rfl), FG14.out.cells 8 _ (by rw [HG.out]; rfl)⟩; clear b14 o14 r14)
          | (go_at_call 7; refine (same_ls p6 p14 m n14 c6 c14 (encF f) (encF g) HM.out HN14.out (by have := HM2.out; rw [← HM.out]; omega) bb HB2.out _ R14.out RG14.out).mono ?_; rintro e w15 ⟨rfl, b15⟩; have FX15 : Hid (FrmAt w15 C f) := FX14.out.up b15; have FA15 : Hid (FrmAt w15 A f) := FA14.out.up b15; have FG15 : Hid (FrmAt w15 B g) := FG14.out.up b15; have B15 : Hid (Below w.heap.size w w15) := B14.out.trans (b15.mono B14.out.size); have S3 : w15.cell? ⟨C, 0, none⟩ = some (.int .i64 f0) ∧ w15.cell? ⟨C, 1, none⟩ = some (.int .i64 f1) ∧ w15.cell? ⟨C, 2, none⟩ = some (.int .i64 f2) ∧ w15.cell? ⟨C, 3, none⟩ = some (.int .i64 f3) ∧ w15.cell? ⟨C, 4, none⟩ = some (.int .i64 f4) ∧ w15.cell? ⟨C, 5, none⟩ = some (.int .i64 f5) ∧ w15.cell? ⟨C, 6, none⟩ = some (.string f6) ∧ w15.cell? ⟨C, 7, none⟩ = some (.int .i64 f7) ∧ w15.cell? ⟨C, 8, none⟩ = some (.string f8) ∧ w15.cell? ⟨A, 0, none⟩ = some (.int .i64 f0) ∧ w15.cell? ⟨A, 1, none⟩ = some (.int .i64 f1) ∧ w15.cell? ⟨A, 2, none⟩ = some (.int .i64 f2) ∧ w15.cell? ⟨A, 3, none⟩ = some (.int .i64 f3) ∧ w15.cell? ⟨A, 4, none⟩ = some (.int .i64 f4) ∧ w15.cell? ⟨A, 5, none⟩ = some (.int .i64 f5) ∧ w15.cell? ⟨A, 6, none⟩ = some (.string f6) ∧ w15.cell? ⟨A, 7, none⟩ = some (.int .i64 f7) ∧ w15.cell? ⟨A, 8, none⟩ = some (.string f8) ∧ w15.cell? ⟨B, 0, none⟩ = some (.int .i64 g0) ∧ w15.cell? ⟨B, 1, none⟩ = some (.int .i64 g1) ∧ w15.cell? ⟨B, 2, none⟩ = some (.int .i64 g2) ∧ w15.cell? ⟨B, 3, none⟩ = some (.int .i64 g3) ∧ w15.cell? ⟨B, 4, none⟩ = some (.int .i64 g4) ∧ w15.cell? ⟨B, 5, none⟩ = some (.int .i64 g5) ∧ w15.cell? ⟨B, 6, none⟩ = some (.string g6) ∧ w15.cell? ⟨B, 7, none⟩ = some (.int .i64 g7) ∧ w15.cell? ⟨B, 8, none⟩ = some (.string g8) := ⟨FX15.out.cells 0 _ (by rw [HF.out]; rfl), FX15.out.cells 1 _ (by rw [HF.out]; rfl), FX15.out.cells 2 _ (by rw [HF.out]; rfl), FX15.out.cells 3 _ (by rw [HF.out]; rfl), FX15.out.cells 4 _ (by rw [HF.out]; rfl), FX15.out.cells 5 _ (by rw [HF.out]; rfl), FX15.out.cells 6 _ (by rw [HF.out]; rfl), FX15.out.cells 7 _ (by rw [HF.out]; rfl), FX15.out.cells 8 _ (by rw [HF.out]; rfl), FA15.out.cells 0 _ (by rw [HF.out]; rfl), FA15.out.cells 1 _ (by rw [HF.out]; rfl), FA15.out.cells 2 _ (by rw [HF.out]; rfl), FA15.out.cells 3 _ (by rw [HF.out]; rfl), FA15.out.cells 4 _ (by rw [HF.out]; rfl), FA15.out.cells 5 _ (by rw [HF.out]; rfl), FA15.out.cells 6 _ (by rw [HF.out]; rfl), FA15.out.cells 7 _ (by rw [HF.out]; rfl), FA15.out.cells 8 _ (by rw [HF.out]; rfl), FG15.out.cells 0 _ (by rw [HG.out]; rfl), FG15.out.cells 1 _ (by rw [HG.out]; rfl), FG15.out.cells 2 _ (by rw [HG.out]; rfl), FG15.out.cells 3 _ (by rw [HG.out]; rfl), FG15.out.cells 4 _ (by rw [HG.out]; rfl), FG15.out.cells 5 _ (by rw [HG.out]; rfl), FG15.out.cells 6 _ (by rw [HG.out]; rfl), FG15.out.cells 7 _ (by rw [HG.out]; rfl), FG15.out.cells 8 _ (by rw [HG.out]; rfl)⟩; clear b15)
          | (go_at_call 3; refine (runs_any _).mono ?_; rintro e w16 ⟨rfl, b16⟩; have FX16 : Hid (FrmAt w16 C f) := FX15.out.up b16; have FA16 : Hid (FrmAt w16 A f) := FA15.out.up b16; have FG16 : Hid (FrmAt w16 B g) := FG15.out.up b16; have B16 : Hid (Below w.heap.size w w16) := B15.out.trans (b16.mono B15.out.size); have S4 : w16.cell? ⟨C, 0, none⟩ = some (.int .i64 f0) ∧ w16.cell? ⟨C, 1, none⟩ = some (.int .i64 f1) ∧ w16.cell? ⟨C, 2, none⟩ = some (.int .i64 f2) ∧ w16.cell? ⟨C, 3, none⟩ = some (.int .i64 f3) ∧ w16.cell? ⟨C, 4, none⟩ = some (.int .i64 f4) ∧ w16.cell? ⟨C, 5, none⟩ = some (.int .i64 f5) ∧ w16.cell? ⟨C, 6, none⟩ = some (.string f6) ∧ w16.cell? ⟨C, 7, none⟩ = some (.int .i64 f7) ∧ w16.cell? ⟨C, 8, none⟩ = some (.string f8) ∧ w16.cell? ⟨A, 0, none⟩ = some (.int .i64 f0) ∧ w16.cell? ⟨A, 1, none⟩ = some (.int .i64 f1) ∧ w16.cell? ⟨A, 2, none⟩ = some (.int .i64 f2) ∧ w16.cell? ⟨A, 3, none⟩ = some (.int .i64 f3) ∧ w16.cell? ⟨A, 4, none⟩ = some (.int .i64 f4) ∧ w16.cell? ⟨A, 5, none⟩ = some (.int .i64 f5) ∧ w16.cell? ⟨A, 6, none⟩ = some (.string f6) ∧ w16.cell? ⟨A, 7, none⟩ = some (.int .i64 f7) ∧ w16.cell? ⟨A, 8, none⟩ = some (.string f8) ∧ w16.cell? ⟨B, 0, none⟩ = some (.int .i64 g0) ∧ w16.cell? ⟨B, 1, none⟩ = some (.int .i64 g1) ∧ w16.cell? ⟨B, 2, none⟩ = some (.int .i64 g2) ∧ w16.cell? ⟨B, 3, none⟩ = some (.int .i64 g3) ∧ w16.cell? ⟨B, 4, none⟩ = some (.int .i64 g4) ∧ w16.cell? ⟨B, 5, none⟩ = some (.int .i64 g5) ∧ w16.cell? ⟨B, 6, none⟩ = some (.string g6) ∧ w16.cell? ⟨B, 7, none⟩ = some (.int .i64 g7) ∧ w16.cell? ⟨B, 8, none⟩ = some (.string g8) := ⟨FX16.out.cells 0 _ (by rw [HF.out]; rfl), FX16.out.cells 1 _ (by rw [HF.out]; rfl), FX16.out.cells 2 _ (by rw [HF.out]; rfl), FX16.out.cells 3 _ (by rw [HF.out]; rfl), FX16.out.cells 4 _ (by rw [HF.out]; rfl), FX16.out.cells 5 _ (by rw [HF.out]; rfl), FX16.out.cells 6 _ (by rw [HF.out]; rfl), FX16.out.cells 7 _ (by rw [HF.out]; rfl), FX16.out.cells 8 _ (by rw [HF.out]; rfl), FA16.out.cells 0 _ (by rw [HF.out]; rfl), FA16.out.cells 1 _ (by rw [HF.out]; rfl), FA16.out.cells 2 _ (by rw [HF.out]; rfl), FA16.out.cells 3 _ (by rw [HF.out]; rfl), FA16.out.cells 4 _ (by rw [HF.out]; rfl), FA16.out.cells 5 _ (by rw [HF.out]; rfl), FA16.out.cells 6 _ (by rw [HF.out]; rfl), FA16.out.cells 7 _ (by rw [HF.out]; rfl), FA16.out.cells 8 _ (by rw [HF.out]; rfl), FG16.out.cells 0 _ (by rw [HG.out]; rfl), FG16.out.cells 1 _ (by rw [HG.out]; rfl), FG16.out.cells 2 _ (by rw [HG.out]; rfl), FG16.out.cells 3 _ (by rw [HG.out]; rfl), FG16.out.cells 4 _ (by rw [HG.out]; rfl), FG16.out.cells 5 _ (by rw [HG.out]; rfl), FG16.out.cells 6 _ (by rw [HG.out]; rfl), FG16.out.cells 7 _ (by rw [HG.out]; rfl), FG16.out.cells 8 _ (by rw [HG.out]; rfl)⟩; clear b16))
      go_wp2_with fail
      go_ret
      exact ⟨rfl, B16.out⟩
end Go.Proofs.Ytcdkpflhpeflcaa
