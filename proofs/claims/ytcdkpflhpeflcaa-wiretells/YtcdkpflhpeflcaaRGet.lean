/-
  THE REFERENCE's Get.
-/
import Derived.Test.YtcdkpflhpeflcaaAt
import Derived.Test.YtcdkpflhpeflcaaRRt
import Derived.Test.YtcdkpflhpeflcaaRefT
namespace Go.Proofs.Ytcdkpflhpeflcaa
open Go.RowKit

theorem rnumr_l {R len : Nat} {f : Nat → Nat} {s s' : Nat × Nat} {n : Int} (hn : nu f len s = (n, s')) (w : World) (h : IsRd w R f len s.1 s.2) :
    Calls Try.prog 24 #[.pointer (some ⟨R, 0, none⟩)] w fun e w' => e = .returned (.int .i64 n) ∧ IsRd w' R f len s'.1 s'.2 ∧ Turn R w w' := by
  refine (rnumr_any R len s.1 s.2 f w h).mono ?_
  rintro e w' ⟨rfl, h2, h3⟩
  have e1 : unf (pk f len s.1 s.2).1 = n := fst_of hn
  have e2 : (s.1 + (pk f len s.1 s.2).2.1, (pk f len s.1 s.2).2.2) = s' := snd_of hn
  rw [e1]
  exact ⟨rfl, by rw [← e2]; exact h2, h3⟩
theorem rtextr_l {R len : Nat} {f : Nat → Nat} {s s' : Nat × Nat} {most : Int} {x : ByteArray} (hn : te f len most s = (x, s')) (w : World) (h : IsRd w R f len s.1 s.2) :
    Calls Try.prog 25 #[.pointer (some ⟨R, 0, none⟩), .int .i64 most] w fun e w' => e = .returned (.string x) ∧ IsRd w' R f len s'.1 s'.2 ∧ Turn R w w' := by
  refine (rtextr_any R len s.1 s.2 f most w h).mono ?_
  rintro e w' ⟨rfl, h2, h3⟩
  have e1 : (txt f len s.1 s.2 most).1 = x := fst_of hn
  have e2 : (txt f len s.1 s.2 most).2 = s' := snd_of hn
  rw [e1]
  exact ⟨rfl, by rw [← e2]; exact h2, h3⟩
/-- Pointers to the first six fields. -/
def PtrAt (w : World) (P G : Nat) : Prop := ∀ j, j < 6 → w.cell? ⟨P, j, none⟩ = some (.pointer (some ⟨G, j, none⟩))
theorem PtrAt.turn {w w' : World} {R P G : Nat} (h : PtrAt w P G) (ht : Turn R w w') (hP : P ≠ R) : PtrAt w' P G := fun j hj => (ht.cell hP).trans (h j hj)
theorem PtrAt.set {w : World} {P G i : Nat} {v : Value} (h : PtrAt w P G) (hP : G ≠ P) : PtrAt (w.setCell ⟨G, i, none⟩ v) P G := fun j hj => by
  rw [World.cell?_setCell_other _ _ _ _ (fun e => by injection e with e _ _; exact hP e)]; exact h j hj
/-- The reference's reading on its way. -/
structure Way (w0 w : World) (R P G n : Nat) (f : Nat → Nat) (s : Nat × Nat) (g : F) : Prop where
  rd : IsRd w R f n s.1 s.2
  fr : FrmAt w G g
  pt : PtrAt w P G
  be : Below w0.heap.size w0 w
structure Apart (X R P G : Nat) : Prop where
  r : X ≤ R
  g : X ≤ G
  gr : G ≠ R
  pr : P ≠ R
  gp : G ≠ P
theorem Way.turn {w0 w w' : World} {R P G n : Nat} {f : Nat → Nat} {s s' : Nat × Nat} {g : F} (h : Way w0 w R P G n f s g) (ha : Apart w0.heap.size R P G) (i : IsRd w' R f n s'.1 s'.2) (t : Turn R w w') : Way w0 w' R P G n f s' g :=
  ⟨i, h.fr.turn t ha.gr, h.pt.turn t ha.pr, t.below h.be ha.r⟩
theorem Way.put {w0 w : World} {R P G n j : Nat} {f : Nat → Nat} {s : Nat × Nat} {g g' : F} {v : Value} (h : Way w0 w R P G n f s g) (ha : Apart w0.heap.size R P G) (hj : g'.cs[j]? = some v) (ho : ∀ i, i ≠ j → g'.cs[i]? = g.cs[i]?) : Way w0 (w.setCell ⟨G, j, none⟩ v) R P G n f s g' := by
  obtain ⟨u0, h0⟩ : ∃ u0, g.cs[j]? = some u0 := ⟨_, List.getElem?_eq_getElem (by
    have := (List.getElem?_eq_some_iff.1 hj).1
    have e1 : g.cs.length = 9 := rfl
    have e2 : g'.cs.length = 9 := rfl
    omega)⟩
  exact ⟨h.rd.other ha.gr (h.fr.cells j u0 h0) (cs_kind h0), h.fr.put hj ho, h.pt.set ha.gp, h.be.setCell (p := ⟨G, j, none⟩) ha.g _⟩
set_option maxHeartbeats 2000000 in
set_option maxRecDepth 100000 in
theorem rget_any (a : Option Addr) (n c : Nat) (f : Nat → Nat) (fb : ∀ i, f i < 256) (hn : n ≤ 140737488355328) (hnc : n ≤ c) (w : World) (ra : RowF w a f n) :
    Calls Try.prog 14 #[.slice a n c] w fun e w' => e = .returned (.tuple #[(gt f n).1.v, .int .i64 (((gt f n).2 : Nat) : Int)]) ∧ Below w.heap.size w w' := by
  obtain ⟨q, hq⟩ : ∃ q, q = gt f n := ⟨_, rfl⟩
  rw [← hq]
  have HQ : Hid (q = gtE (err f n) (frm f n)) := hq
  clear hq
  obtain ⟨g0, g1, g2, g3, g4, g5, g7, g6, g8, s1, s2, s3, s4, s5, s6, s7, s8, s9, h0, h1, h2, h3, h4, h5, h6, h7, h8, hF, hS⟩ := letters f n
  rw [hF] at HQ
  have HE : Hid (err f n = endE n s9.1 s9.2) := by show endE n (qd f n).1 (qd f n).2 = _; rw [hS]
  clear hF hS
  obtain ⟨x, hx⟩ : ∃ x : F, x = ⟨g0, g1, g2, g3, g4, g5, g6, g7, g8⟩ := ⟨_, rfl⟩
  have HX : Hid (x = ⟨g0, g1, g2, g3, g4, g5, g6, g7, g8⟩) := hx
  clear hx
  have H0 : Hid (nu f n (0, 0) = (g0, s1)) := h0
  have H1 : Hid (nu f n s1 = (g1, s2)) := h1
  have H2 : Hid (nu f n s2 = (g2, s3)) := h2
  have H3 : Hid (nu f n s3 = (g3, s4)) := h3
  have H4 : Hid (nu f n s4 = (g4, s5)) := h4
  have H5 : Hid (nu f n s5 = (g5, s6)) := h5
  have H6 : Hid (te f n 250 s6 = (g6, s7)) := h6
  have H7 : Hid (nu f n s7 = (g7, s8)) := h7
  have H8 : Hid (te f n 1049600 s8 = (g8, s9)) := h8
  clear h0 h1 h2 h3 h4 h5 h6 h7 h8
  obtain ⟨w1, hw1⟩ : ∃ w1, w1 = w.alloc (.cells #[.int .i64 0, .int .i64 0, .int .i64 0, .int .i64 0, .int .i64 0, .int .i64 0, .string ⟨#[]⟩, .int .i64 0, .string ⟨#[]⟩] 25) := ⟨_, rfl⟩
  obtain ⟨w2, hw2⟩ : ∃ w2, w2 = w1.alloc (.cells #[.slice a n c, .int .i64 0, .int .i64 0] 49) := ⟨_, rfl⟩
  obtain ⟨w3, hw3⟩ : ∃ w3, w3 = w2.alloc (.cells #[.int .i64 0, .int .i64 0, .int .i64 0, .int .i64 0, .int .i64 0, .int .i64 0, .string ⟨#[]⟩, .int .i64 0, .string ⟨#[]⟩] 25) := ⟨_, rfl⟩
  obtain ⟨w4, hw4⟩ : ∃ w4, w4 = w3.alloc (.cells #[.pointer (some ⟨w2.heap.size, 0, none⟩), .pointer (some ⟨w2.heap.size, 1, none⟩), .pointer (some ⟨w2.heap.size, 2, none⟩), .pointer (some ⟨w2.heap.size, 3, none⟩), .pointer (some ⟨w2.heap.size, 4, none⟩), .pointer (some ⟨w2.heap.size, 5, none⟩)] 50) := ⟨_, rfl⟩
  have z1 : w1.heap.size = w.heap.size + 1 := by rw [hw1, World.size_alloc]
  have z2 : w2.heap.size = w.heap.size + 2 := by rw [hw2, World.size_alloc, z1]
  have z3 : w3.heap.size = w.heap.size + 3 := by rw [hw3, World.size_alloc, z2]
  have b1 : Below w.heap.size w w1 := by rw [hw1]; exact (Below.refl _ _).alloc (Nat.le_refl _) _
  have b2 : Below w1.heap.size w1 w2 := by rw [hw2]; exact (Below.refl _ _).alloc (Nat.le_refl _) _
  have b3 : Below w2.heap.size w2 w3 := by rw [hw3]; exact (Below.refl _ _).alloc (Nat.le_refl _) _
  have b4 : Below w3.heap.size w3 w4 := by rw [hw4]; exact (Below.refl _ _).alloc (Nat.le_refl _) _
  have N1 : Nine w1 w.heap.size := by rw [hw1]; exact Nine.new w
  have I2 : IsRd w2 w1.heap.size f n 0 0 := by
    have r2 := (ra.below b1).below b2
    rw [hw2] at r2 ⊢
    exact ⟨⟨a, c, by rw [World.cell?_alloc_new]; rfl, hnc, r2⟩, by rw [World.cell?_alloc_new]; rfl, by rw [World.cell?_alloc_new]; rfl, World.frozen?_alloc_new _ _ _ _, World.frozen?_alloc_new _ _ _ _, Nat.zero_le _, hn, fb⟩
  have F3 : FrmAt w3 w2.heap.size (part x 0) := by rw [hw3]; exact FrmAt.new w2 (part x 0) _ rfl
  have P4 : PtrAt w4 w3.heap.size w2.heap.size := fun j hj => by
    rw [hw4, World.cell?_alloc_new]
    have hjs : j = 0 ∨ j = 1 ∨ j = 2 ∨ j = 3 ∨ j = 4 ∨ j = 5 := by omega
    rcases hjs with rfl | rfl | rfl | rfl | rfl | rfl <;> rfl
  have WY : Hid (Way w1 w4 (w.heap.size + 1) (w.heap.size + 3) (w.heap.size + 2) n f (0, 0) (part x 0)) := by
    have e : Way w1 w4 w1.heap.size w3.heap.size w2.heap.size n f (0, 0) (part x 0) := ⟨(I2.up b3).up b4, F3.up b4, P4, (b2.trans (b3.mono b2.size)).trans (b4.mono (Nat.le_trans b2.size b3.size))⟩
    rw [z1, z2, z3] at e
    exact e
  have AP : Hid (Apart w1.heap.size (w.heap.size + 1) (w.heap.size + 3) (w.heap.size + 2)) := by rw [z1]; exact ⟨by omega, by omega, by omega, by omega, by omega⟩
  have HW1 : Hid (Below w.heap.size w w1) := b1
  have HN1 : Hid (Nine w1 w.heap.size) := N1
  have hw4' : w4 = (((w.alloc (.cells #[.int .i64 0, .int .i64 0, .int .i64 0, .int .i64 0, .int .i64 0, .int .i64 0, .string ⟨#[]⟩, .int .i64 0, .string ⟨#[]⟩] 25)).alloc (.cells #[.slice a n c, .int .i64 0, .int .i64 0] 49)).alloc (.cells #[.int .i64 0, .int .i64 0, .int .i64 0, .int .i64 0, .int .i64 0, .int .i64 0, .string ⟨#[]⟩, .int .i64 0, .string ⟨#[]⟩] 25)).alloc (.cells #[.pointer (some ⟨w.heap.size + 2, 0, none⟩), .pointer (some ⟨w.heap.size + 2, 1, none⟩), .pointer (some ⟨w.heap.size + 2, 2, none⟩), .pointer (some ⟨w.heap.size + 2, 3, none⟩), .pointer (some ⟨w.heap.size + 2, 4, none⟩), .pointer (some ⟨w.heap.size + 2, 5, none⟩)] 50) := by
    rw [hw4, z2, hw3, hw2, hw1]
  clear hw1 hw2 hw3 hw4 z1 z2 z3 b1 b2 b3 b4 N1 I2 F3 P4 ra fb
  go_enter Try.func14, Try.ntmps14
  go_wp2_with fail
  rw [← hw4']
  clear hw4'
  obtain ⟨A, hA⟩ : ∃ A, A = w.heap.size := ⟨_, rfl⟩
  obtain ⟨R, hR⟩ : ∃ R, R = w.heap.size + 1 := ⟨_, rfl⟩
  obtain ⟨G, hG⟩ : ∃ G, G = w.heap.size + 1 + 1 := ⟨_, rfl⟩
  obtain ⟨P, hP⟩ : ∃ P, P = w.heap.size + 1 + 1 + 1 := ⟨_, rfl⟩
  have WY' : Hid (Way w1 w4 R P G n f (0, 0) (part x 0)) := by rw [hR, hG, hP]; exact WY
  have AP' : Hid (Apart w1.heap.size R P G) := by rw [hR, hG, hP]; exact AP
  clear WY AP
  have WY : Hid (Way w1 w4 R P G n f (0, 0) (part x 0)) := WY'
  have AP : Hid (Apart w1.heap.size R P G) := AP'
  clear WY' AP'
  rw [← hP, ← hG, ← hR, ← hA]
  rw [← hA] at HN1
  have HA : Hid (w.heap.size ≤ A) := by rw [hA]; exact Nat.le_refl _
  clear hA hR hG hP
  go_loopw [20] (fun y wr => ∃ (j : Nat) (s : Nat × Nat), y = .int .i64 (j : Int) ∧ j ≤ 6 ∧ Hid (s = [(0, 0), s1, s2, s3, s4, s5, s6].getD j (0, 0)) ∧ Hid (Way w1 wr R P G n f s (part x j))) (fun y _ => 6 - (intOf y).toNat)
  case atStart => exact ⟨0, (0, 0), rfl, by omega, rfl, WY⟩
  case round =>
    clear WY
    obtain ⟨j, s, rfl, hj, HS, WY⟩ := hrel
    by_cases h6 : j = 6
    · subst h6
      have hs : s = s6 := HS.out
      subst hs
      clear HS hj
      have HX6 : Hid (x.key = g6) := by rw [HX.out]; rfl
      go_wp2_with fail
      refine (rtextr_l (s := s) H6.out _ WY.out.rd).mono ?_
      rintro e w5 ⟨rfl, i5, t5⟩
      have Y5 : Way w1 w5 R P G n f s7 (part x 6) := WY.out.turn AP.out i5 t5
      have c6 : w5.cell? ⟨G, 6, none⟩ = some (.string ⟨#[]⟩) := Y5.fr.cells 6 _ rfl
      have z6 := Y5.fr.fz 6
      have Y6 : Hid (Way w1 (w5.setCell ⟨G, 6, none⟩ (.string g6)) R P G n f s7 (part x 7)) := Y5.put AP.out (by rw [HX.out]; rfl) (fun i hi => by rcases i with _ | _ | _ | _ | _ | _ | _ | _ | _ | i <;> first | rfl | exact absurd rfl hi)
      clear i5 t5 Y5 WY
      go_wp2_with fail
      refine (rnumr_l (s := s7) H7.out _ Y6.out.rd).mono ?_
      rintro e w6 ⟨rfl, i6, t6⟩
      have Y7 : Way w1 w6 R P G n f s8 (part x 7) := Y6.out.turn AP.out i6 t6
      have c7 : w6.cell? ⟨G, 7, none⟩ = some (.int .i64 0) := Y7.fr.cells 7 _ rfl
      have z7 := Y7.fr.fz 7
      have Y8 : Hid (Way w1 (w6.setCell ⟨G, 7, none⟩ (.int .i64 g7)) R P G n f s8 (part x 8)) := Y7.put AP.out (by rw [HX.out]; rfl) (fun i hi => by rcases i with _ | _ | _ | _ | _ | _ | _ | _ | _ | i <;> first | rfl | exact absurd rfl hi)
      clear i6 t6 Y7 Y6 c6 z6
      go_wp2_with fail
      refine (rtextr_l (s := s8) H8.out _ Y8.out.rd).mono ?_
      rintro e w7 ⟨rfl, i7, t7⟩
      have Y9 : Way w1 w7 R P G n f s9 (part x 8) := Y8.out.turn AP.out i7 t7
      have c8 : w7.cell? ⟨G, 8, none⟩ = some (.string ⟨#[]⟩) := Y9.fr.cells 8 _ rfl
      have z8 := Y9.fr.fz 8
      have Y10 : Hid (Way w1 (w7.setCell ⟨G, 8, none⟩ (.string g8)) R P G n f s9 (part x 9)) := Y9.put AP.out (by rw [HX.out]; rfl) (fun i hi => by rcases i with _ | _ | _ | _ | _ | _ | _ | _ | _ | i <;> first | rfl | exact absurd rfl hi)
      clear i7 t7 Y9 Y8 c7 z7
      go_wp2_with fail
      refine (rendr_any R n _ _ f _ Y10.out.rd).mono ?_
      rintro e w8 ⟨rfl, i8, t8⟩
      have Y11 : Hid (Way w1 w8 R P G n f (s9.1, endE n s9.1 s9.2) x) := Y10.out.turn (s' := (s9.1, endE n s9.1 s9.2)) AP.out i8 t8
      have n8 : Nine w8 A := HN1.out.up Y11.out.be
      obtain ⟨k, hk⟩ : ∃ k, k = endE n s9.1 s9.2 := ⟨_, rfl⟩
      have HK : Hid (err f n = k) := HE.out.trans hk.symm
      rw [← hk] at Y11 ⊢
      rw [HK.out] at HQ
      clear hk i8 t8 Y10 c8 z8 HK HE
      by_cases hk0 : k = 0
      · subst hk0
        have d0 : w8.cell? ⟨G, 0, none⟩ = some (.int .i64 g0) := Y11.out.fr.cells 0 _ (by rw [HX.out]; rfl)
        have d1 : w8.cell? ⟨G, 1, none⟩ = some (.int .i64 g1) := Y11.out.fr.cells 1 _ (by rw [HX.out]; rfl)
        have d2 : w8.cell? ⟨G, 2, none⟩ = some (.int .i64 g2) := Y11.out.fr.cells 2 _ (by rw [HX.out]; rfl)
        have d3 : w8.cell? ⟨G, 3, none⟩ = some (.int .i64 g3) := Y11.out.fr.cells 3 _ (by rw [HX.out]; rfl)
        have d4 : w8.cell? ⟨G, 4, none⟩ = some (.int .i64 g4) := Y11.out.fr.cells 4 _ (by rw [HX.out]; rfl)
        have d5 : w8.cell? ⟨G, 5, none⟩ = some (.int .i64 g5) := Y11.out.fr.cells 5 _ (by rw [HX.out]; rfl)
        have d6 : w8.cell? ⟨G, 6, none⟩ = some (.string g6) := Y11.out.fr.cells 6 _ (by rw [HX.out]; rfl)
        have d7 : w8.cell? ⟨G, 7, none⟩ = some (.int .i64 g7) := Y11.out.fr.cells 7 _ (by rw [HX.out]; rfl)
        have d8 : w8.cell? ⟨G, 8, none⟩ = some (.string g8) := Y11.out.fr.cells 8 _ (by rw [HX.out]; rfl)
        have N8 : Hid (Nine w8 A) := n8
        have rr := rright_any ⟨g0, g1, g2, g3, g4, g5, g6, g7, g8⟩ w8
        simp only [F.v, F.cs] at rr
        have RR : Hid (Calls Try.prog 10 #[.agg #[.int .i64 g0, .int .i64 g1, .int .i64 g2, .int .i64 g3, .int .i64 g4, .int .i64 g5, .string g6, .int .i64 g7, .string g8]] w8 fun e w' => e = .returned (.bool (rt ⟨g0, g1, g2, g3, g4, g5, g6, g7, g8⟩)) ∧ Below w8.heap.size w8 w') := rr
        clear rr n8
        go_wp2_with fail
        refine RR.out.mono ?_
        rintro e w9 ⟨rfl, b9⟩
        have n9 : Nine w9 A := N8.out.up b9
        have B9 : Hid (Below w.heap.size w w9) := HW1.out.trans ((Y11.out.be.trans (b9.mono Y11.out.be.size)).mono HW1.out.size)
        have fr9 := Y11.out.fr.up b9
        have u0 : w9.cell? ⟨G, 0, none⟩ = some (.int .i64 g0) := fr9.cells 0 _ (by rw [HX.out]; rfl)
        have u1 : w9.cell? ⟨G, 1, none⟩ = some (.int .i64 g1) := fr9.cells 1 _ (by rw [HX.out]; rfl)
        have u2 : w9.cell? ⟨G, 2, none⟩ = some (.int .i64 g2) := fr9.cells 2 _ (by rw [HX.out]; rfl)
        have u3 : w9.cell? ⟨G, 3, none⟩ = some (.int .i64 g3) := fr9.cells 3 _ (by rw [HX.out]; rfl)
        have u4 : w9.cell? ⟨G, 4, none⟩ = some (.int .i64 g4) := fr9.cells 4 _ (by rw [HX.out]; rfl)
        have u5 : w9.cell? ⟨G, 5, none⟩ = some (.int .i64 g5) := fr9.cells 5 _ (by rw [HX.out]; rfl)
        have u6 : w9.cell? ⟨G, 6, none⟩ = some (.string g6) := fr9.cells 6 _ (by rw [HX.out]; rfl)
        have u7 : w9.cell? ⟨G, 7, none⟩ = some (.int .i64 g7) := fr9.cells 7 _ (by rw [HX.out]; rfl)
        have u8 : w9.cell? ⟨G, 8, none⟩ = some (.string g8) := fr9.cells 8 _ (by rw [HX.out]; rfl)
        clear d0 d1 d2 d3 d4 d5 d6 d7 d8 RR b9 N8 fr9 Y11
        cases hr : rt ⟨g0, g1, g2, g3, g4, g5, g6, g7, g8⟩
        · have HQ2 : Hid (q = (Z, 4)) := HQ.out.trans (gtE_bad hr)
          have HB : Hid (Below w.heap.size w (nine w9 A (.int .i64 0) (.int .i64 0) (.int .i64 0) (.int .i64 0) (.int .i64 0) (.int .i64 0) (.string ⟨#[]⟩) (.int .i64 0) (.string ⟨#[]⟩))) := below_nine B9.out HA.out _ _ _ _ _ _ _ _ _
          have c0 := n9.cell 0
          have c1 := n9.cell 1
          have c2 := n9.cell 2
          have c3 := n9.cell 3
          have c4 := n9.cell 4
          have c5 := n9.cell 5
          have c6 := n9.cell 6
          have c7 := n9.cell 7
          have c8 := n9.cell 8
          have z := n9.frozen
          simp only [List.getElem?_toArray, List.getElem?_cons_zero, List.getElem?_cons_succ] at c0 c1 c2 c3 c4 c5 c6 c7 c8
          clear n9 HQ u0 u1 u2 u3 u4 u5 u6 u7 u8
          go_wp2_with fail
          refine bodyPost_ret (v := .tuple #[.agg #[.int .i64 0, .int .i64 0, .int .i64 0, .int .i64 0, .int .i64 0, .int .i64 0, .string ⟨#[]⟩, .int .i64 0, .string ⟨#[]⟩], .int .i64 4]) (by simp [results, Try.results14]; go_simp) rfl ?_
          exact ⟨ret_get HQ2.out rfl, HB.out⟩
        · have HQ2 : Hid (q = (⟨g0, g1, g2, g3, g4, g5, g6, g7, g8⟩, 0)) := HQ.out.trans (gtE_yes hr)
          have HB : Hid (Below w.heap.size w (nine w9 A (.int .i64 g0) (.int .i64 g1) (.int .i64 g2) (.int .i64 g3) (.int .i64 g4) (.int .i64 g5) (.string g6) (.int .i64 g7) (.string g8))) := below_nine B9.out HA.out _ _ _ _ _ _ _ _ _
          have c0 := n9.cell 0
          have c1 := n9.cell 1
          have c2 := n9.cell 2
          have c3 := n9.cell 3
          have c4 := n9.cell 4
          have c5 := n9.cell 5
          have c6 := n9.cell 6
          have c7 := n9.cell 7
          have c8 := n9.cell 8
          have z := n9.frozen
          simp only [List.getElem?_toArray, List.getElem?_cons_zero, List.getElem?_cons_succ] at c0 c1 c2 c3 c4 c5 c6 c7 c8
          clear n9 HQ
          go_wp2_with fail
          refine bodyPost_ret (v := .tuple #[.agg #[.int .i64 g0, .int .i64 g1, .int .i64 g2, .int .i64 g3, .int .i64 g4, .int .i64 g5, .string g6, .int .i64 g7, .string g8], .int .i64 0]) (by simp [results, Try.results14]; go_simp) rfl ?_
          exact ⟨ret_get HQ2.out rfl, HB.out⟩
      · have HQ2 : Hid (q = (Z, k)) := HQ.out.trans (gtE_no hk0)
        have HB : Hid (Below w.heap.size w (nine w8 A (.int .i64 0) (.int .i64 0) (.int .i64 0) (.int .i64 0) (.int .i64 0) (.int .i64 0) (.string ⟨#[]⟩) (.int .i64 0) (.string ⟨#[]⟩))) := below_nine (HW1.out.trans (Y11.out.be.mono HW1.out.size)) HA.out _ _ _ _ _ _ _ _ _
        have j1 : ((k : Int) != 0) = true := by simp; omega
        have c0 := n8.cell 0
        have c1 := n8.cell 1
        have c2 := n8.cell 2
        have c3 := n8.cell 3
        have c4 := n8.cell 4
        have c5 := n8.cell 5
        have c6 := n8.cell 6
        have c7 := n8.cell 7
        have c8 := n8.cell 8
        have z := n8.frozen
        simp only [List.getElem?_toArray, List.getElem?_cons_zero, List.getElem?_cons_succ] at c0 c1 c2 c3 c4 c5 c6 c7 c8
        clear n8 HQ hk0 Y11
        go_wp2_with fail
        refine bodyPost_ret (v := .tuple #[.agg #[.int .i64 0, .int .i64 0, .int .i64 0, .int .i64 0, .int .i64 0, .int .i64 0, .string ⟨#[]⟩, .int .i64 0, .string ⟨#[]⟩], .int .i64 (k : Int)]) (by simp [results, Try.results14]; go_simp) rfl ?_
        exact ⟨ret_get HQ2.out rfl, HB.out⟩
    · have hjs : j = 0 ∨ j = 1 ∨ j = 2 ∨ j = 3 ∨ j = 4 ∨ j = 5 := by omega
      clear h6 hj
      rcases hjs with rfl | rfl | rfl | rfl | rfl | rfl
      · have hs : s = (0, 0) := HS.out
        subst hs
        have p := WY.out.pt 0 (by decide)
        go_wp2_with fail
        refine (rnumr_l (s := (0, 0)) H0.out _ WY.out.rd).mono ?_
        rintro e w5 ⟨rfl, i5, t5⟩
        have Y5 : Way w1 w5 R P G n f s1 (part x 0) := WY.out.turn AP.out i5 t5
        have c5 : w5.cell? ⟨G, 0, none⟩ = some (.int .i64 0) := Y5.fr.cells 0 _ rfl
        have z5 := Y5.fr.fz 0
        have Y6 : Hid (Way w1 (w5.setCell ⟨G, 0, none⟩ (.int .i64 g0)) R P G n f s1 (part x 1)) := Y5.put AP.out (by rw [HX.out]; rfl) (fun i hi => by rcases i with _ | _ | _ | _ | _ | _ | _ | _ | _ | i <;> first | rfl | exact absurd rfl hi)
        clear i5 t5 Y5 WY HS p
        go_wp2_with fail
        exact ⟨⟨1, s1, by go_num, by omega, rfl, Y6⟩, by simp [intOf]⟩
      · have hs : s = s1 := HS.out
        subst hs
        have p := WY.out.pt 1 (by decide)
        go_wp2_with fail
        refine (rnumr_l (s := _) H1.out _ WY.out.rd).mono ?_
        rintro e w5 ⟨rfl, i5, t5⟩
        have Y5 : Way w1 w5 R P G n f s2 (part x 1) := WY.out.turn AP.out i5 t5
        have c5 : w5.cell? ⟨G, 1, none⟩ = some (.int .i64 0) := Y5.fr.cells 1 _ rfl
        have z5 := Y5.fr.fz 1
        have Y6 : Hid (Way w1 (w5.setCell ⟨G, 1, none⟩ (.int .i64 g1)) R P G n f s2 (part x 2)) := Y5.put AP.out (by rw [HX.out]; rfl) (fun i hi => by rcases i with _ | _ | _ | _ | _ | _ | _ | _ | _ | i <;> first | rfl | exact absurd rfl hi)
        clear i5 t5 Y5 WY HS p
        go_wp2_with fail
        exact ⟨⟨2, s2, by go_num, by omega, rfl, Y6⟩, by simp [intOf]⟩
      · have hs : s = s2 := HS.out
        subst hs
        have p := WY.out.pt 2 (by decide)
        go_wp2_with fail
        refine (rnumr_l (s := _) H2.out _ WY.out.rd).mono ?_
        rintro e w5 ⟨rfl, i5, t5⟩
        have Y5 : Way w1 w5 R P G n f s3 (part x 2) := WY.out.turn AP.out i5 t5
        have c5 : w5.cell? ⟨G, 2, none⟩ = some (.int .i64 0) := Y5.fr.cells 2 _ rfl
        have z5 := Y5.fr.fz 2
        have Y6 : Hid (Way w1 (w5.setCell ⟨G, 2, none⟩ (.int .i64 g2)) R P G n f s3 (part x 3)) := Y5.put AP.out (by rw [HX.out]; rfl) (fun i hi => by rcases i with _ | _ | _ | _ | _ | _ | _ | _ | _ | i <;> first | rfl | exact absurd rfl hi)
        clear i5 t5 Y5 WY HS p
        go_wp2_with fail
        exact ⟨⟨3, s3, by go_num, by omega, rfl, Y6⟩, by simp [intOf]⟩
      · have hs : s = s3 := HS.out
        subst hs
        have p := WY.out.pt 3 (by decide)
        go_wp2_with fail
        refine (rnumr_l (s := _) H3.out _ WY.out.rd).mono ?_
        rintro e w5 ⟨rfl, i5, t5⟩
        have Y5 : Way w1 w5 R P G n f s4 (part x 3) := WY.out.turn AP.out i5 t5
        have c5 : w5.cell? ⟨G, 3, none⟩ = some (.int .i64 0) := Y5.fr.cells 3 _ rfl
        have z5 := Y5.fr.fz 3
        have Y6 : Hid (Way w1 (w5.setCell ⟨G, 3, none⟩ (.int .i64 g3)) R P G n f s4 (part x 4)) := Y5.put AP.out (by rw [HX.out]; rfl) (fun i hi => by rcases i with _ | _ | _ | _ | _ | _ | _ | _ | _ | i <;> first | rfl | exact absurd rfl hi)
        clear i5 t5 Y5 WY HS p
        go_wp2_with fail
        exact ⟨⟨4, s4, by go_num, by omega, rfl, Y6⟩, by simp [intOf]⟩
      · have hs : s = s4 := HS.out
        subst hs
        have p := WY.out.pt 4 (by decide)
        go_wp2_with fail
        refine (rnumr_l (s := _) H4.out _ WY.out.rd).mono ?_
        rintro e w5 ⟨rfl, i5, t5⟩
        have Y5 : Way w1 w5 R P G n f s5 (part x 4) := WY.out.turn AP.out i5 t5
        have c5 : w5.cell? ⟨G, 4, none⟩ = some (.int .i64 0) := Y5.fr.cells 4 _ rfl
        have z5 := Y5.fr.fz 4
        have Y6 : Hid (Way w1 (w5.setCell ⟨G, 4, none⟩ (.int .i64 g4)) R P G n f s5 (part x 5)) := Y5.put AP.out (by rw [HX.out]; rfl) (fun i hi => by rcases i with _ | _ | _ | _ | _ | _ | _ | _ | _ | i <;> first | rfl | exact absurd rfl hi)
        clear i5 t5 Y5 WY HS p
        go_wp2_with fail
        exact ⟨⟨5, s5, by go_num, by omega, rfl, Y6⟩, by simp [intOf]⟩
      · have hs : s = s5 := HS.out
        subst hs
        have p := WY.out.pt 5 (by decide)
        go_wp2_with fail
        refine (rnumr_l (s := _) H5.out _ WY.out.rd).mono ?_
        rintro e w5 ⟨rfl, i5, t5⟩
        have Y5 : Way w1 w5 R P G n f s6 (part x 5) := WY.out.turn AP.out i5 t5
        have c5 : w5.cell? ⟨G, 5, none⟩ = some (.int .i64 0) := Y5.fr.cells 5 _ rfl
        have z5 := Y5.fr.fz 5
        have Y6 : Hid (Way w1 (w5.setCell ⟨G, 5, none⟩ (.int .i64 g5)) R P G n f s6 (part x 6)) := Y5.put AP.out (by rw [HX.out]; rfl) (fun i hi => by rcases i with _ | _ | _ | _ | _ | _ | _ | _ | _ | i <;> first | rfl | exact absurd rfl hi)
        clear i5 t5 Y5 WY HS p
        go_wp2_with fail
        exact ⟨⟨6, s6, by go_num, by omega, rfl, Y6⟩, by simp [intOf]⟩
end Go.Proofs.Ytcdkpflhpeflcaa
