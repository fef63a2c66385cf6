/-
  PACKREADS walked: any bytes, any calls: each answer, each error, each place.
-/
import Derived.Test.YtihghccjcicbeaaOpen
import Derived.Test.YtihghccjcicbeaaRefT
namespace Go.Proofs.Ytihghccjcicbeaa
open Go.RowKit

theorem RowF.turnC {w w' : World} {a : Option Addr} {f f1 : Nat → Nat} {n R l1 a1 e1 : Nat} (h : RowF w a f n) (t : Turn R w w') (hr : IsRd w R f1 l1 a1 e1) : RowF w' a f n := by
  rcases h with h | ⟨p, off, e, hc⟩
  · exact .inl h
  · refine .inr ⟨p, off, e, fun i hi => ?_⟩
    rw [t.cells _ (fun e2 => by
      have := hc i hi
      rw [e2, hr.pl] at this
      cases this) (fun e2 => by
      have := hc i hi
      rw [e2, hr.er] at this
      cases this)]
    exact hc i hi
theorem IsRd.turn {w w' : World} {R R1 len at' wr l1 a1 e1 : Nat} {f f1 : Nat → Nat} (h : IsRd w R f len at' wr) (t : Turn R1 w w') (hr : IsRd w R1 f1 l1 a1 e1) (hne : R ≠ R1) : IsRd w' R f len at' wr := by
  obtain ⟨⟨a, c, h0, hlc, ra⟩, hp, he, f1, f2, hat, lim, fb⟩ := h
  exact ⟨⟨a, c, (t.cell hne).trans h0, hlc, ra.turnC t hr⟩, (t.cell hne).trans hp, (t.cell hne).trans he, (t.fz hne).trans f1, (t.fz hne).trans f2, hat, lim, fb⟩
theorem wrong_q (R len at' wr : Nat) (f : Nat → Nat) (w : World) (h : IsRd w R f len at' wr) :
    Calls Try.prog 23 #[.pointer (some ⟨R, 0, none⟩)] w fun e w' => e = .returned (.int .i64 ((wr : Nat) : Int)) ∧ w' = w := (wrong_any R len at' wr f w h).mono fun _ _ h => ⟨h.1, h.2.symm⟩
theorem at_q (R len at' wr : Nat) (f : Nat → Nat) (w : World) (h : IsRd w R f len at' wr) :
    Calls Try.prog 24 #[.pointer (some ⟨R, 0, none⟩)] w fun e w' => e = .returned (.int .i64 ((at' : Nat) : Int)) ∧ w' = w := (at_any R len at' wr f w h).mono fun _ _ h => ⟨h.1, h.2.symm⟩
theorem str_same (s : ByteArray) : (s.toList == s.toList) = true := by simp
set_option maxHeartbeats 4000000 in
theorem reads_walk (a : Option Addr) (len cap : Nat) (f : Nat → Nat) (fb : ∀ i, f i < 256) (hlc : len ≤ cap) (hlen : len ≤ 140737488351232) (la : Option Addr) (ln lc : Nat) (K N : Nat → Int) (S : Nat → ByteArray) (hln : ln ≤ 9223372036854775807)
    (w : World) (ra : RowF w a f len) (ri : ItemF w la K N S ln) :
    Calls Try.prog 5 #[.slice a len cap, .slice la ln lc] w fun e w' => e = .returned (.bool true) ∧ Below w.heap.size w w' := by
  have RA : Hid (RowF w a f len) := ra
  have RI : Hid (ItemF w la K N S ln) := ri
  have FB : Hid (∀ i, f i < 256) := fb
  clear ra ri fb
  go_enter Try.func5, Try.ntmps5
  go_wp2_with fail
  refine (roomy_any a len cap 12 _ f rfl hlen _ RA.out).mono ?_
  rintro e w2 ⟨rfl, r2, b2⟩
  have hi2 : (len : Int) ≤ (len : Int) + 80 := by omega
  have RF2 : Hid (RowF w2 (some ⟨w.heap.size, 0, none⟩) (roomF f len 12) (len + 80)) := r2
  have RG2 : Hid (RowF w2 (some ⟨w.heap.size, 0, none⟩) f len) := by
    rcases r2 with h | ⟨p, off, e, hr⟩
    · exfalso; omega
    · exact .inr ⟨p, off, e, fun j hj => by rw [hr j (by omega)]; unfold roomF; rw [if_pos hj]⟩
  have HB2 : Hid (Below w.heap.size w w2) := b2
  clear r2 b2
  go_wp2_with fail
  refine (read_any _ len (len + 80) f FB.out (by omega) _ RG2.out).mono ?_
  rintro e w3 ⟨R1, rfl, hR1, h3, b3⟩
  have HB3 : Hid (Below w.heap.size w w3) := HB2.out.trans (b3.mono HB2.out.size)
  have RF3 : Hid (RowF w3 (some ⟨w.heap.size, 0, none⟩) (roomF f len 12) (len + 80)) := RF2.out.below b3
  have H3 : Hid (IsRd w3 R1 f len 0 0) := h3
  have hR1' : w.heap.size ≤ R1 := Nat.le_trans HB2.out.size hR1
  clear h3 b3 RF2 RG2 HB2 hR1
  go_wp2_with fail
  obtain ⟨R2, hR2⟩ : ∃ R2, R2 = w3.heap.size := ⟨_, rfl⟩
  obtain ⟨w4, hw4⟩ : ∃ w4, w4 = w3.alloc (.cells #[.slice a len cap, .int .i64 0, .int .i64 0] 39) := ⟨_, rfl⟩
  have b4 : Below w3.heap.size w3 w4 := by rw [hw4]; exact (Below.refl _ _).alloc (Nat.le_refl _) _
  have HB4 : Hid (Below w.heap.size w w4) := HB3.out.trans (b4.mono HB3.out.size)
  have H41 : Hid (IsRd w4 R1 f len 0 0) := H3.out.up b4
  have H42 : Hid (IsRd w4 R2 f len 0 0) := by
    have r4 := RA.out.below HB4.out
    rw [hw4, hR2]
    rw [hw4] at r4
    exact ⟨⟨a, cap, by rw [World.cell?_alloc_new]; rfl, hlc, r4⟩, by rw [World.cell?_alloc_new]; rfl, by rw [World.cell?_alloc_new]; rfl, World.frozen?_alloc_new _ _ _ _, World.frozen?_alloc_new _ _ _ _, Nat.zero_le _, by omega, FB.out⟩
  have RF4 : Hid (RowF w4 (some ⟨w.heap.size, 0, none⟩) (roomF f len 12) (len + 80)) := RF3.out.below b4
  have hne : R1 ≠ R2 := by have := World.block_lt_of_cell? _ _ H3.out.pl; rw [hR2]; intro e; subst e; exact absurd this (Nat.lt_irrefl _)
  have hne' : R2 ≠ R1 := fun e => hne e.symm
  have hR2' : w.heap.size ≤ R2 := by rw [hR2]; exact HB3.out.size
  rw [← hw4, ← hR2]
  have HNE : Hid (R1 ≠ R2 ∧ R2 ≠ R1) := ⟨hne, hne'⟩
  clear hw4 hR2 b4 H3 RF3 HB3 hne hne'
  go_loopw [8] (fun z wr => ∃ (i A E : Nat), z = .int .i64 ((i : Nat) : Int) ∧ i ≤ 60 ∧ i ≤ ln ∧ Hid (IsRd wr R1 f len A E) ∧ Hid (IsRd wr R2 f len A E) ∧ Hid (RowF wr (some ⟨w.heap.size, 0, none⟩) (roomF f len 12) (len + 80)) ∧ Hid (Below w.heap.size w wr)) (fun z _ => 60 - (intOf z).toNat)
  case atStart => exact ⟨0, 0, 0, rfl, by omega, by omega, H41, H42, RF4, HB4⟩
  case round =>
    clear H41 H42 RF4 HB4
    obtain ⟨i, A, E, rfl, hi60, hiln, H1, H2, RF, HB⟩ := hrel
    by_cases hlt : i < ln ∧ i < 60
    · obtain ⟨g1, g2⟩ := hlt
      have k1 : (i : Int) < (ln : Int) := by omega
      have k2 : (i : Int) < (60 : Int) := by omega
      obtain ⟨p, off, rfl, hc⟩ : ∃ p off, la = some ⟨p, off, none⟩ ∧ ∀ i, i < ln → w.cell? ⟨p, off + i * 3, none⟩ = some (.int .i64 (K i)) ∧ w.cell? ⟨p, off + i * 3 + 1, none⟩ = some (.int .i64 (N i)) ∧ w.cell? ⟨p, off + i * 3 + 2, none⟩ = some (.string (S i)) := by
        rcases RI.out with r | r
        · exfalso; omega
        · exact r
      have d0 : wr.cell? ⟨p, off + i * 3, none⟩ = some (.int .i64 (K i)) := cell_up HB.out (hc i g1).1
      have d1 : wr.cell? ⟨p, off + i * 3 + 1, none⟩ = some (.int .i64 (N i)) := cell_up HB.out (hc i g1).2.1
      have D1 : Hid (w.cell? ⟨p, off + i * 3 + 1, none⟩ = some (.int .i64 (N i))) := (hc i g1).2.1
      clear hc
      have hcase : (K i = 1) ∨ (K i = 2) ∨ (K i = 3) ∨ (K i ≠ 1 ∧ K i ≠ 2 ∧ K i ≠ 3) := by omega
      rcases hcase with hk | hk | hk | ⟨hk1, hk2, hk3⟩
      case' inl =>
        have q1 : (K i == 1) = true := by simp [hk]
        clear hk
        go_wp2_with fail
        refine (rdnum_any R1 len A E f _ H1.out).mono ?_
        rintro e w5 ⟨rfl, h5, t5⟩
        have H51 : Hid (IsRd w5 R1 f len (A + (pk f len A E).2.1) (pk f len A E).2.2) := h5
        have H52 : Hid (IsRd w5 R2 f len A E) := H2.out.turn t5 H1.out HNE.out.2
        have RF5 : Hid (RowF w5 (some ⟨w.heap.size, 0, none⟩) (roomF f len 12) (len + 80)) := RF.out.turnC t5 H1.out
        have HB5 : Hid (Below w.heap.size w w5) := t5.below HB.out hR1'
        clear h5 t5 H1 H2 RF HB d0 d1
        go_wp2_with fail
        refine (rnumr_any R2 len A E f _ H52.out).mono ?_
        rintro e w6 ⟨rfl, h6, t6⟩
        have H61 : Hid (IsRd w6 R1 f len (A + (pk f len A E).2.1) (pk f len A E).2.2) := H51.out.turn t6 H52.out HNE.out.1
        have H62 : Hid (IsRd w6 R2 f len (A + (pk f len A E).2.1) (pk f len A E).2.2) := h6
        have RF6 : Hid (RowF w6 (some ⟨w.heap.size, 0, none⟩) (roomF f len 12) (len + 80)) := RF5.out.turnC t6 H52.out
        have HB6 : Hid (Below w.heap.size w w6) := t6.below HB5.out hR2'
        clear h6 t6 H51 H52 RF5 HB5
        obtain ⟨A2, hA2⟩ : ∃ A2, A2 = A + (pk f len A E).2.1 := ⟨_, rfl⟩
        obtain ⟨E2, hE2⟩ : ∃ E2, E2 = (pk f len A E).2.2 := ⟨_, rfl⟩
        obtain ⟨u, hu⟩ : ∃ u, u = unf (pk f len A E).1 := ⟨_, rfl⟩
        rw [← hA2, ← hE2] at H61 H62
        rw [← hu]
        clear hA2 hE2 hu
        have qq : (u == u) = true := by simp
        go_wp2_with fail
      case' inr.inl =>
        have q1 : (K i == 1) = false := by simp [hk]
        have q2 : (K i == 2) = true := by simp [hk]
        clear hk
        have H1A : Hid (∀ X, Alike wr X → IsRd X R1 f len A E) := fun X hX => H1.out.up (hX.below _)
        have H2A : Hid (∀ X Z, Alike wr X → Turn R1 X Z → IsRd Z R2 f len A E) := fun X Z hX hZ => (H2.out.up (hX.below _)).turn hZ (H1A.out X hX) HNE.out.2
        have RFA : Hid (∀ X Z, Alike wr X → Turn R1 X Z → RowF Z (some ⟨w.heap.size, 0, none⟩) (roomF f len 12) (len + 80)) := fun X Z hX hZ => (RF.out.below (hX.below _)).turnC hZ (H1A.out X hX)
        have HBA : Hid (∀ X Z, Alike wr X → Turn R1 X Z → Below w.heap.size w Z) := fun X Z hX hZ => hZ.below (HB.out.trans (hX.below _)) hR1'
        go_wp2_with fail
        go_region_held3 (fun w' => w'.cell? ⟨p, off + i * 3 + 1, none⟩ = some (.int .i64 (N i)))
          (first | exact d1 | exact hC5 | exact hC6)
          (first
            | (go_at_call 19; refine (rdtext_any R1 len A E f (N i) _ (H1A.out wr.drew ⟨rfl, rfl, rfl, rfl⟩)).mono ?_; rintro e w5 ⟨rfl, h5, t5⟩; have H52 := H2A.out wr.drew w5 ⟨rfl, rfl, rfl, rfl⟩ t5; have RF5 := RFA.out wr.drew w5 ⟨rfl, rfl, rfl, rfl⟩ t5; have HB5 := HBA.out wr.drew w5 ⟨rfl, rfl, rfl, rfl⟩ t5; have hC5 := cell_up HB5 D1.out)
            | (go_at_call 20; refine (rtextr_any R2 len A E f (N i) _ H52).mono ?_; rintro e w6 ⟨rfl, h6, t6⟩; have HB6 := t6.below HB5 hR2'; have hC6 := cell_up HB6 D1.out))
        have H61 : Hid (IsRd w6 R1 f len (txt f len A E (N i)).2.1 (txt f len A E (N i)).2.2) := h5.turn t6 H52 HNE.out.1
        have H62 : Hid (IsRd w6 R2 f len (txt f len A E (N i)).2.1 (txt f len A E (N i)).2.2) := h6
        have RF6 : Hid (RowF w6 (some ⟨w.heap.size, 0, none⟩) (roomF f len 12) (len + 80)) := RF5.turnC t6 H52
        have HB6' : Hid (Below w.heap.size w w6) := HB6
        obtain ⟨A2, hA2⟩ : ∃ A2, A2 = (txt f len A E (N i)).2.1 := ⟨_, rfl⟩
        obtain ⟨E2, hE2⟩ : ∃ E2, E2 = (txt f len A E (N i)).2.2 := ⟨_, rfl⟩
        rw [← hA2, ← hE2] at H61 H62
        clear HB6
        have HB6 := HB6'
        clear HB6' hA2 hE2 h5 t5 h6 t6 H52 RF5 HB5 hC5 hC6 H1A H2A RFA HBA H1 H2 RF HB d0 d1
        go_wp2_with fail
      case' inr.inr.inl =>
        have q1 : (K i == 1) = false := by simp [hk]
        have q2 : (K i == 2) = false := by simp [hk]
        have q3 : (K i == 3) = true := by simp [hk]
        clear hk
        go_wp2_with fail
        refine (rdend_any R1 len A E f _ H1.out).mono ?_
        rintro e w5 ⟨rfl, h5, t5⟩
        have H51 : Hid (IsRd w5 R1 f len A (endE len A E)) := h5
        have H52 : Hid (IsRd w5 R2 f len A E) := H2.out.turn t5 H1.out HNE.out.2
        have RF5 : Hid (RowF w5 (some ⟨w.heap.size, 0, none⟩) (roomF f len 12) (len + 80)) := RF.out.turnC t5 H1.out
        have HB5 : Hid (Below w.heap.size w w5) := t5.below HB.out hR1'
        clear h5 t5 H1 H2 RF HB d0 d1
        go_wp2_with fail
        refine (rendr_any R2 len A E f _ H52.out).mono ?_
        rintro e w6 ⟨rfl, h6, t6⟩
        have H61 : Hid (IsRd w6 R1 f len A (endE len A E)) := H51.out.turn t6 H52.out HNE.out.1
        have H62 : Hid (IsRd w6 R2 f len A (endE len A E)) := h6
        have RF6 : Hid (RowF w6 (some ⟨w.heap.size, 0, none⟩) (roomF f len 12) (len + 80)) := RF5.out.turnC t6 H52.out
        have HB6 : Hid (Below w.heap.size w w6) := t6.below HB5.out hR2'
        clear h6 t6 H51 H52 RF5 HB5
        obtain ⟨E2, hE2⟩ : ∃ E2, E2 = endE len A E := ⟨_, rfl⟩
        obtain ⟨A2, rfl⟩ : ∃ A2, A2 = A := ⟨_, rfl⟩
        rw [← hE2] at H61 H62 ⊢
        clear hE2
        have qq : ((E2 : Int) == (E2 : Int)) = true := by simp
        go_wp2_with fail
      case' inr.inr.inr =>
        have q1 : (K i == 1) = false := by simp [hk1]
        have q2 : (K i == 2) = false := by simp [hk2]
        have q3 : (K i == 3) = false := by simp [hk3]
        clear hk1 hk2 hk3
        have H61 := H1
        have H62 := H2
        have RF6 := RF
        have HB6 := HB
        go_wp2_with fail
        clear H1 H2 RF HB d0 d1
        obtain ⟨w6, hw6⟩ : ∃ w6, w6 = wr := ⟨_, rfl⟩
        rw [← hw6] at H61 H62 RF6 HB6 ⊢
        obtain ⟨A2, hA2⟩ : ∃ A2, A2 = A := ⟨_, rfl⟩
        obtain ⟨E2, hE2⟩ : ∃ E2, E2 = E := ⟨_, rfl⟩
        rw [← hA2, ← hE2] at H61 H62
        clear hw6 hA2 hE2
      all_goals
        have cE := H62.out.er
        have cA := H62.out.pl
        have ne1 : ((E2 : Int) != (E2 : Int)) = false := by simp
        have ne2 : ((A2 : Int) != (A2 : Int)) = false := by simp
        go_quiet ((first | (go_at_call 23; exact Calls.quiet_of_same (wrong_q R1 len A2 E2 f _ (H61.out.drewN _))) | (go_at_call 24; exact Calls.quiet_of_same (at_q R1 len A2 E2 f _ (H61.out.drewN _)))))
        go_wp2_with fail
        exact ⟨⟨i + 1, A2, E2, by go_num, by omega, by omega, H61.out.drewN nq, H62.out.drewN nq, RF6.out.below (below_drewN (Below.refl _ _) nq), below_drewN HB6.out nq⟩, by simp [intOf]; omega⟩
    · have hcase : (¬ i < ln) ∨ (i < ln ∧ ¬ i < 60) := by omega
      rcases hcase with g | ⟨g, g'⟩
      case' inl =>
        have k1 : decide ((i : Int) < (ln : Int)) = false := by simp; omega
      case' inr =>
        have k1 : (i : Int) < (ln : Int) := by omega
        have k2 : decide ((i : Int) < (60 : Int)) = false := by simp; omega
      all_goals
        clear hlt
        go_wp2_with fail
        refine (intact_any w.heap.size a len cap 12 _ f rfl hlen _ RF.out (RA.out.below HB.out)).mono ?_
        rintro e w5 ⟨rfl, d5, rfl⟩
        have HB5 : Hid (Below w.heap.size w (wr.drewN d5)) := below_drewN HB.out d5
        obtain ⟨w5, hw5⟩ : ∃ w5, w5 = wr.drewN d5 := ⟨_, rfl⟩
        rw [← hw5] at HB5 ⊢
        clear hw5 HB RF H1 H2
        go_wp2_with fail
        refine (runs_any _).mono ?_
        rintro e w6 ⟨rfl, B6⟩
        have HB6 : Hid (Below w.heap.size w w6) := HB5.out.trans (B6.mono HB5.out.size)
        clear B6 HB5
        go_wp2_with fail
        go_ret
        exact ⟨rfl, HB6.out⟩
end Go.Proofs.Ytihghccjcicbeaa
