/-
  A READER that a law holds beside lists of its own.
-/
import Derived.Test.YtfinaichajbnkaaGreatPap
import Derived.Test.YtfinaichajbnkaaGreatPsq
namespace Go.Proofs.YtfinaichajbnkaaGreat
open Go.RowKit
open Wi (F IsRd RowF Turn)

/-- Labels for what is new. -/
def nwt (t : Nat × Nat) (o : Nat → Nat × Nat) (n : Nat) : Nat → Nat × Nat := fun b => if b < n then o b else t
theorem nwt_new {t : Nat × Nat} {o : Nat → Nat × Nat} {n b : Nat} (h : n ≤ b) : nwt t o n b = t := by unfold nwt; rw [if_neg (by omega)]
theorem nwt_fr (t : Nat × Nat) (T : Nat × Nat → Prop) (o : Nat → Nat × Nat) {w V : World} (h : Below w.heap.size w V) : Fr T o (nwt t o w.heap.size) w V :=
  ⟨h.os, h.tape, h.output, h.size, fun b hb => by unfold nwt; rw [if_pos hb], fun b hb _ => h.block b hb⟩
structure Rdr (w : World) (o : Nat → Nat × Nat) (R : Nat) (f : Nat → Nat) (len at' : Nat) : Prop where
  i : IsRd w R f len at' 0
  lb : o R = (4, 4)
  rw : ∀ a c, w.cell? ⟨R, 0, none⟩ = some (.slice a len c) → ∀ p off, a = some ⟨p, off, none⟩ → 0 < len → o p = (4, 4)
theorem Rdr.fr {T : Nat × Nat → Prop} {w w' : World} {o o' : Nat → Nat × Nat} {R : Nat} {f : Nat → Nat} {len at' : Nat} (h : Rdr w o R f len at') (g : Fr T o o' w w') (hT : ¬ T (4, 4)) : Rdr w' o' R f len at' := by
  have hR : ¬ T (o R) := by rw [h.lb]; exact hT
  have hlt : R < w.heap.size := World.block_lt_of_cell? _ _ h.i.pl
  obtain ⟨a, c, h0, hc, hr⟩ := h.i.bs
  have h0' := g.cell h0 hR
  have hr' : RowF w' a f len := by
    by_cases hl : len = 0
    · exact .inl hl
    rcases hr with hr | ⟨p, off, e, hr⟩
    · exact .inl hr
    · have hp := h.rw a c h0 p off e (by omega)
      exact .inr ⟨p, off, e, fun i hi => g.cell (hr i hi) (by rw [hp]; exact hT)⟩
  refine ⟨⟨⟨a, c, h0', hc, hr'⟩, g.cell h.i.pl hR, g.cell h.i.er hR, (g.frozen hlt hR).trans h.i.f1, (g.frozen hlt hR).trans h.i.f2, h.i.hat, h.i.lim, h.i.fb⟩, (g.lab R hlt).trans h.lb, fun a' c' e' p off ep hl => ?_⟩
  rw [h0'] at e'
  injection e' with e'
  injection e' with e1 e2 e3
  subst e1
  have hp := h.rw a c h0 p off ep hl
  rcases hr with hr | ⟨p', off', e, hr⟩
  · omega
  · rw [ep] at e
    injection e with e
    injection e with e1 e2
    subst e1
    exact (g.lab p (World.block_lt_of_cell? _ _ (hr 0 hl))).trans hp
theorem Rdr.turn {w w' : World} {o : Nat → Nat × Nat} {R : Nat} {f : Nat → Nat} {len at' q : Nat} (h : Rdr w o R f len at') (t : Turn R w w') (i : IsRd w' R f len q 0) : Rdr w' o R f len q :=
  ⟨i, h.lb, fun a c e => h.rw a c (by rw [← t.cells ⟨R, 0, none⟩ (fun x => by injection x with _ x; omega) (fun x => by injection x with _ x; omega)]; exact e)⟩
/-- The reader's own turn. -/
theorem turn_fr {w w' : World} {o : Nat → Nat × Nat} {R : Nat} (t : Turn R w w') (hR : o R = (4, 4)) : Fr (· = (4, 4)) o o w w' :=
  ⟨t.os, t.tape, t.output, by rw [t.size]; exact Nat.le_refl _, fun _ _ => rfl, fun b _ hb => t.block b (fun e => hb (by rw [e]; exact hR))⟩
theorem nTP4 : ∀ t, TP t → ¬ (t = (4, 4)) := fun t h e => by
  rw [e] at h
  rcases h with h | h
  · have : 4 ≤ 3 := h.2; omega
  · have : 4 = 10 := h; omega
theorem nTP5 : ∀ t, TP t → ¬ (t = (5, 5)) := fun t h e => by
  rw [e] at h
  rcases h with h | h
  · have : 5 ≤ 3 := h.2; omega
  · have : 5 = 10 := h; omega
open Wi in
theorem read_any2 (a : Option Addr) (n c : Nat) (f : Nat → Nat) (fb : ∀ i, f i < 256) (hn : n ≤ 140737488355328) (w : World) (ra : RowF w a f n) :
    Calls Tryz.prog 21 #[.slice a n c] w fun e w' => ∃ R, e = .returned (.pointer (some ⟨R, 0, none⟩)) ∧ w.heap.size ≤ R ∧ IsRd w' R f n 0 0 ∧ Below w.heap.size w w' ∧ ∀ a' c', w'.cell? ⟨R, 0, none⟩ = some (.slice a' n c') → ∀ p off, a' = some ⟨p, off, none⟩ → 0 < n → w.heap.size ≤ p := by
  go_enter Tryz.func21, Tryz.ntmps21
  go_wp2_with fail
  refine (Wi.clone_any a n c f hn _ ra).mono ?_
  rintro e w2 ⟨v, rfl, O1, B1⟩
  have hg : ∀ a1 c1, v = .slice a1 n c1 → ∀ p off, a1 = some ⟨p, off, none⟩ → 0 < n → w.heap.size ≤ p := by
    intro a1 c1 hv p off ha hn0
    rcases O1 with ⟨h1, _⟩ | ⟨g, cap, h1, h2, _⟩
    · rw [h1] at hv
      injection hv with hv
      rw [← hv] at ha; cases ha
    · rw [h1] at hv
      injection hv with hv
      rw [← hv] at ha
      injection ha with ha
      injection ha with ha
      omega
  obtain ⟨a1, c1, rfl, hc1, r1⟩ := O1.row
  rw [tab_length] at r1 hc1 hg
  have r2 : RowF w2 a1 f n := by
    rcases r1 with h | ⟨p, off, e, hr⟩
    · exact .inl h
    · exact .inr ⟨p, off, e, fun i hi => by rw [hr i hi, lf_tab hi]⟩
  rw [tab_length]
  have HB : Hid (Below w.heap.size w w2) := B1
  have H2 : Hid (RowF w2 a1 f n) := r2
  have HF : Hid (∀ i, f i < 256) := fb
  have HG := hid (hg a1 c1 rfl)
  clear O1 B1 r1 r2 ra fb hg
  go_wp2_with fail
  go_ret
  have b3 : Below w2.heap.size w2 (w2.alloc (.cells #[.slice a1 n c1, .int .i64 0, .int .i64 0] 78)) := (Below.refl _ _).alloc (Nat.le_refl _) _
  refine ⟨w2.heap.size, rfl, HB.out.size, ⟨⟨a1, c1, by rw [World.cell?_alloc_new]; rfl, hc1, H2.out.below b3⟩, by rw [World.cell?_alloc_new]; rfl, by rw [World.cell?_alloc_new]; rfl, World.frozen?_alloc_new _ _ _ _, World.frozen?_alloc_new _ _ _ _, Nat.zero_le _, hn, HF.out⟩, HB.out.trans (b3.mono HB.out.size), fun a' c' e => ?_⟩
  rw [World.cell?_alloc_new] at e
  injection e with e
  injection e with e1 e2 e3
  rw [← e1]
  exact HG.out
set_option maxRecDepth 100000 in
theorem prdwrong0 (R : Nat) (w : World) (he : w.cell? ⟨R, 2, none⟩ = some (.int .i64 0)) :
    Calls Tryz.prog 23 #[.pointer (some ⟨R, 0, none⟩)] w fun e w' => e = .returned (.int .i64 0) ∧ w' = w := by
  go_enter Tryz.func23, Tryz.ntmps23
  go_wp2
  go_ret
  exact ⟨rfl, rfl⟩
/-- A new reader. -/
theorem Rdr.new {w w' : World} (o : Nat → Nat × Nat) {R : Nat} {f : Nat → Nat} {len : Nat} (hR : w.heap.size ≤ R) (i : IsRd w' R f len 0 0) (h : ∀ a' c', w'.cell? ⟨R, 0, none⟩ = some (.slice a' len c') → ∀ p off, a' = some ⟨p, off, none⟩ → 0 < len → w.heap.size ≤ p) : Rdr w' (nwt (4, 4) o w.heap.size) R f len 0 :=
  ⟨i, nwt_new hR, fun a c e p off ep hl => nwt_new (h a c e p off ep hl)⟩
end Go.Proofs.YtfinaichajbnkaaGreat
