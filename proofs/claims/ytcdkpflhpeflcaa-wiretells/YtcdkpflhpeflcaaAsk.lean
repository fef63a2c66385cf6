/-
  THE PROGRAM's Get: what is asked for, in which order; End; is it right?
-/
import Derived.Test.YtcdkpflhpeflcaaPut
import Derived.Deep.RegionLaw
namespace Go.Proofs.Ytcdkpflhpeflcaa
open Go.RowKit

theorem pair {α β : Type} (x : α × β) : x = (x.1, x.2) := rfl
/-- All that is read, by letters. -/
theorem letters (f : Nat → Nat) (len : Nat) : ∃ (n0 n1 n2 n3 n4 n5 n7 : Int) (x6 x8 : ByteArray) (s1 s2 s3 s4 s5 s6 s7 s8 s9 : Nat × Nat),
    nu f len (0, 0) = (n0, s1) ∧ nu f len s1 = (n1, s2) ∧ nu f len s2 = (n2, s3) ∧ nu f len s3 = (n3, s4) ∧ nu f len s4 = (n4, s5) ∧ nu f len s5 = (n5, s6) ∧ te f len 250 s6 = (x6, s7) ∧ nu f len s7 = (n7, s8) ∧ te f len 1049600 s8 = (x8, s9) ∧
    frm f len = ⟨n0, n1, n2, n3, n4, n5, x6, n7, x8⟩ ∧ qd f len = s9 :=
  ⟨(nu f len (qn f len 0)).1, (nu f len (qn f len 1)).1, (nu f len (qn f len 2)).1, (nu f len (qn f len 3)).1, (nu f len (qn f len 4)).1, (nu f len (qn f len 5)).1, (nu f len (qt f len)).1, (te f len 250 (qn f len 6)).1, (te f len 1049600 (qv f len)).1, qn f len 1, qn f len 2, qn f len 3, qn f len 4, qn f len 5, qn f len 6, qt f len, qv f len, qd f len,
    by rw [qn_s]; exact pair _, by rw [qn_s f len 1], by rw [qn_s f len 2], by rw [qn_s f len 3], by rw [qn_s f len 4], by rw [qn_s f len 5], by rw [qt_e], by rw [qv_e], by rw [qd_e], rfl, rfl⟩
theorem rdnum_l {R len : Nat} {f : Nat → Nat} {s s' : Nat × Nat} {n : Int} (hn : nu f len s = (n, s')) (w : World) (h : IsRd w R f len s.1 s.2) :
    Calls Try.prog 32 #[.pointer (some ⟨R, 0, none⟩)] w fun e w' => e = .returned (.int .i64 n) ∧ IsRd w' R f len s'.1 s'.2 ∧ Turn R w w' := by
  refine (rdnum_any R len s.1 s.2 f w h).mono ?_
  rintro e w' ⟨rfl, h2, h3⟩
  have e1 : unf (pk f len s.1 s.2).1 = n := fst_of hn
  have e2 : (s.1 + (pk f len s.1 s.2).2.1, (pk f len s.1 s.2).2.2) = s' := snd_of hn
  rw [e1]
  exact ⟨rfl, by rw [← e2]; exact h2, h3⟩
theorem rdtext_l {R len : Nat} {f : Nat → Nat} {s s' : Nat × Nat} {most : Int} {x : ByteArray} (hn : te f len most s = (x, s')) (w : World) (h : IsRd w R f len s.1 s.2) :
    Calls Try.prog 33 #[.pointer (some ⟨R, 0, none⟩), .int .i64 most] w fun e w' => e = .returned (.string x) ∧ IsRd w' R f len s'.1 s'.2 ∧ Turn R w w' := by
  refine (rdtext_any R len s.1 s.2 f most w h).mono ?_
  rintro e w' ⟨rfl, h2, h3⟩
  have e1 : (txt f len s.1 s.2 most).1 = x := fst_of hn
  have e2 : (txt f len s.1 s.2 most).2 = s' := snd_of hn
  rw [e1]
  exact ⟨rfl, by rw [← e2]; exact h2, h3⟩
/-- Nine cells in a block of their own. -/
def zc : Array Value := #[.int .i64 0, .int .i64 0, .int .i64 0, .int .i64 0, .int .i64 0, .int .i64 0, .string ⟨#[]⟩, .int .i64 0, .string ⟨#[]⟩]
def Nine (w : World) (B : Nat) : Prop := w.heap[B]? = some (.cells #[.int .i64 0, .int .i64 0, .int .i64 0, .int .i64 0, .int .i64 0, .int .i64 0, .string ⟨#[]⟩, .int .i64 0, .string ⟨#[]⟩] 25)
theorem Nine.cell {w : World} {B : Nat} (h : Nine w B) (j : Nat) : w.cell? ⟨B, j, none⟩ = #[Value.int .i64 0, .int .i64 0, .int .i64 0, .int .i64 0, .int .i64 0, .int .i64 0, .string ⟨#[]⟩, .int .i64 0, .string ⟨#[]⟩][j]? := by
  unfold World.cell?; rw [h]; simp
theorem Nine.frozen {w : World} {B : Nat} (h : Nine w B) (j : Nat) : w.frozen? ⟨B, j, none⟩ = false := by
  unfold World.frozen?; rw [h]; simp
theorem Nine.new (w : World) : Nine (w.alloc (.cells #[.int .i64 0, .int .i64 0, .int .i64 0, .int .i64 0, .int .i64 0, .int .i64 0, .string ⟨#[]⟩, .int .i64 0, .string ⟨#[]⟩] 25)) w.heap.size := by
  unfold Nine World.alloc; exact Array.getElem?_push_size
theorem Nine.lt {w : World} {B : Nat} (h : Nine w B) : B < w.heap.size := (Array.getElem?_eq_some_iff.1 h).1
theorem Nine.up {w w' : World} {B : Nat} (h : Nine w B) (hb : Below w.heap.size w w') : Nine w' B := (hb.block B h.lt).trans h
theorem Nine.turn {w w' : World} {R B : Nat} (h : Nine w B) (ht : Turn R w w') (hR : B ≠ R) : Nine w' B := (ht.block B hR).trans h
/-- Nine cells stored. -/
def nine (w : World) (B : Nat) (u0 u1 u2 u3 u4 u5 u6 u7 u8 : Value) : World := ((((((((w.setCell ⟨B, 0, none⟩ u0).setCell ⟨B, 1, none⟩ u1).setCell ⟨B, 2, none⟩ u2).setCell ⟨B, 3, none⟩ u3).setCell ⟨B, 4, none⟩ u4).setCell ⟨B, 5, none⟩ u5).setCell ⟨B, 6, none⟩ u6).setCell ⟨B, 7, none⟩ u7).setCell ⟨B, 8, none⟩ u8
theorem below_nine {X : Nat} {w0 w : World} (h : Below X w0 w) {B : Nat} (hB : X ≤ B) (u0 u1 u2 u3 u4 u5 u6 u7 u8 : Value) : Below X w0 (nine w B u0 u1 u2 u3 u4 u5 u6 u7 u8) :=
  ((((((((h.setCell (p := ⟨B, 0, none⟩) hB u0).setCell (p := ⟨B, 1, none⟩) hB u1).setCell (p := ⟨B, 2, none⟩) hB u2).setCell (p := ⟨B, 3, none⟩) hB u3).setCell (p := ⟨B, 4, none⟩) hB u4).setCell (p := ⟨B, 5, none⟩) hB u5).setCell (p := ⟨B, 6, none⟩) hB u6).setCell (p := ⟨B, 7, none⟩) hB u7).setCell (p := ⟨B, 8, none⟩) hB u8
theorem IsRd.other {w : World} {R A o len at' wr : Nat} {f : Nat → Nat} {u v : Value} (h : IsRd w R f len at' wr) (hA : A ≠ R) (hc : w.cell? ⟨A, o, none⟩ = some u) (hu : ∀ x, u ≠ .int .u8 x) : IsRd (w.setCell ⟨A, o, none⟩ v) R f len at' wr := by
  obtain ⟨⟨a, c, hb, hlc, ra⟩, hp, he, f1, f2, hat, lim, fb⟩ := h
  have e : ∀ j, (w.setCell ⟨A, o, none⟩ v).cell? ⟨R, j, none⟩ = w.cell? ⟨R, j, none⟩ := fun j => World.cell?_setCell_other _ _ _ _ (fun e => by injection e with e _ _; exact hA e)
  exact ⟨⟨a, c, by rw [e]; exact hb, hlc, ra.set hc hu⟩, by rw [e]; exact hp, by rw [e]; exact he, by rw [World.frozen?_setCell]; exact f1, by rw [World.frozen?_setCell]; exact f2, hat, lim, fb⟩
theorem cell_past {w : World} {A i j : Nat} {u v : Value} (h : w.cell? ⟨A, j, none⟩ = some u) (hij : i ≠ j) : (w.setCell ⟨A, i, none⟩ v).cell? ⟨A, j, none⟩ = some u := by
  rw [World.cell?_setCell_other _ _ _ _ (fun e => by injection e with _ e _; exact hij e)]; exact h
theorem IsRd.nine {w : World} {R A len at' wr : Nat} {f : Nat → Nat} (h : IsRd w R f len at' wr) (hA : A ≠ R) (hn : Nine w A) (u0 u1 u2 u3 u4 u5 u6 u7 u8 : Value) : IsRd (nine w A u0 u1 u2 u3 u4 u5 u6 u7 u8) R f len at' wr := by
  have c0 : w.cell? ⟨A, 0, none⟩ = some (.int .i64 0) := hn.cell 0
  have c1 : w.cell? ⟨A, 1, none⟩ = some (.int .i64 0) := hn.cell 1
  have c2 : w.cell? ⟨A, 2, none⟩ = some (.int .i64 0) := hn.cell 2
  have c3 : w.cell? ⟨A, 3, none⟩ = some (.int .i64 0) := hn.cell 3
  have c4 : w.cell? ⟨A, 4, none⟩ = some (.int .i64 0) := hn.cell 4
  have c5 : w.cell? ⟨A, 5, none⟩ = some (.int .i64 0) := hn.cell 5
  have c6 : w.cell? ⟨A, 6, none⟩ = some (.string ⟨#[]⟩) := hn.cell 6
  have c7 : w.cell? ⟨A, 7, none⟩ = some (.int .i64 0) := hn.cell 7
  have c8 : w.cell? ⟨A, 8, none⟩ = some (.string ⟨#[]⟩) := hn.cell 8
  have hi : ∀ x, (Value.int .i64 0) ≠ .int .u8 x := fun x e => by cases e
  have hs : ∀ x, (Value.string ⟨#[]⟩) ≠ .int .u8 x := fun x e => by cases e
  unfold Go.Proofs.Ytcdkpflhpeflcaa.nine
  have p1 : ∀ {w : World} {i j : Nat} {u v : Value}, w.cell? ⟨A, j, none⟩ = some u → i < j → (w.setCell ⟨A, i, none⟩ v).cell? ⟨A, j, none⟩ = some u := fun h hij => cell_past h (by omega)
  refine IsRd.other (IsRd.other (IsRd.other (IsRd.other (IsRd.other (IsRd.other (IsRd.other (IsRd.other (IsRd.other h hA c0 hi) hA (p1 c1 (by decide)) hi) hA (p1 (p1 c2 (by decide)) (by decide)) hi) hA (p1 (p1 (p1 c3 (by decide)) (by decide)) (by decide)) hi) hA (p1 (p1 (p1 (p1 c4 (by decide)) (by decide)) (by decide)) (by decide)) hi) hA (p1 (p1 (p1 (p1 (p1 c5 (by decide)) (by decide)) (by decide)) (by decide)) (by decide)) hi) hA (p1 (p1 (p1 (p1 (p1 (p1 c6 (by decide)) (by decide)) (by decide)) (by decide)) (by decide)) (by decide)) hs) hA (p1 (p1 (p1 (p1 (p1 (p1 (p1 c7 (by decide)) (by decide)) (by decide)) (by decide)) (by decide)) (by decide)) (by decide)) hi) hA (p1 (p1 (p1 (p1 (p1 (p1 (p1 (p1 c8 (by decide)) (by decide)) (by decide)) (by decide)) (by decide)) (by decide)) (by decide)) (by decide)) hs
set_option maxHeartbeats 4000000 in
set_option maxRecDepth 100000 in
theorem ask_any (R len : Nat) (f : Nat → Nat) (w : World) (h : IsRd w R f len 0 0) :
    Calls Try.prog 20 #[.pointer (some ⟨R, 0, none⟩)] w fun e w' => e = .returned (frm f len).v ∧ IsRd w' R f len (qd f len).1 (qd f len).2 ∧ ∀ w0 : World, Below w0.heap.size w0 w → w0.heap.size ≤ R → Below w0.heap.size w0 w' := by
  obtain ⟨n0, n1, n2, n3, n4, n5, n7, x6, x8, s1, s2, s3, s4, s5, s6, s7, s8, s9, h0, h1, h2, h3, h4, h5, h6, h7, h8, hF, hQ⟩ := letters f len
  rw [hF, hQ]
  clear hF hQ
  have H0 : Hid (nu f len (0, 0) = (n0, s1)) := h0
  have H1 : Hid (nu f len s1 = (n1, s2)) := h1
  have H2 : Hid (nu f len s2 = (n2, s3)) := h2
  have H3 : Hid (nu f len s3 = (n3, s4)) := h3
  have H4 : Hid (nu f len s4 = (n4, s5)) := h4
  have H5 : Hid (nu f len s5 = (n5, s6)) := h5
  have H6 : Hid (te f len 250 s6 = (x6, s7)) := h6
  have H7 : Hid (nu f len s7 = (n7, s8)) := h7
  have H8 : Hid (te f len 1049600 s8 = (x8, s9)) := h8
  clear h0 h1 h2 h3 h4 h5 h6 h7 h8
  have hRw : R < w.heap.size := World.block_lt_of_cell? _ _ h.pl
  have W0 : Hid (Below w.heap.size w (w.alloc (.cells #[.int .i64 0, .int .i64 0, .int .i64 0, .int .i64 0, .int .i64 0, .int .i64 0, .string ⟨#[]⟩, .int .i64 0, .string ⟨#[]⟩] 25))) := (Below.refl _ _).alloc (Nat.le_refl _) _
  have I0 : Hid (IsRd (w.alloc (.cells #[.int .i64 0, .int .i64 0, .int .i64 0, .int .i64 0, .int .i64 0, .int .i64 0, .string ⟨#[]⟩, .int .i64 0, .string ⟨#[]⟩] 25)) R f len 0 0) := h.up W0.out
  have N0 : Hid (Nine (w.alloc (.cells #[.int .i64 0, .int .i64 0, .int .i64 0, .int .i64 0, .int .i64 0, .int .i64 0, .string ⟨#[]⟩, .int .i64 0, .string ⟨#[]⟩] 25)) w.heap.size) := Nine.new w
  clear h
  go_enter Try.func20, Try.ntmps20
  go_wp2_with fail
  obtain ⟨A, hA⟩ : ∃ A, A = w.heap.size := ⟨_, rfl⟩
  rw [← hA] at N0 ⊢
  have HA : Hid (A = w.heap.size) := hA
  have HAR : Hid (A ≠ R) := by show _ ≠ _; omega
  clear hA hRw
  refine (rdnum_l (s := (0, 0)) H0.out _ I0.out).mono ?_
  rintro e w1 ⟨rfl, i1, t1⟩
  have I1 : Hid (IsRd w1 R f len s1.1 s1.2) := i1
  have T1 : Hid (Turn R (w.alloc (.cells #[.int .i64 0, .int .i64 0, .int .i64 0, .int .i64 0, .int .i64 0, .int .i64 0, .string ⟨#[]⟩, .int .i64 0, .string ⟨#[]⟩] 25)) w1) := t1
  clear i1 t1 I0
  go_wp2_with fail
  refine (rdnum_l (s := s1) H1.out _ I1.out).mono ?_
  rintro e w2 ⟨rfl, i2, t2⟩
  have I2 : Hid (IsRd w2 R f len s2.1 s2.2) := i2
  have T2 : Hid (Turn R (w.alloc (.cells #[.int .i64 0, .int .i64 0, .int .i64 0, .int .i64 0, .int .i64 0, .int .i64 0, .string ⟨#[]⟩, .int .i64 0, .string ⟨#[]⟩] 25)) w2) := T1.out.trans t2
  clear i2 t2 I1 T1
  go_wp2_with fail
  refine (rdnum_l (s := s2) H2.out _ I2.out).mono ?_
  rintro e w3 ⟨rfl, i3, t3⟩
  have I3 : Hid (IsRd w3 R f len s3.1 s3.2) := i3
  have T3 : Hid (Turn R (w.alloc (.cells #[.int .i64 0, .int .i64 0, .int .i64 0, .int .i64 0, .int .i64 0, .int .i64 0, .string ⟨#[]⟩, .int .i64 0, .string ⟨#[]⟩] 25)) w3) := T2.out.trans t3
  clear i3 t3 I2 T2
  go_wp2_with fail
  refine (rdnum_l (s := s3) H3.out _ I3.out).mono ?_
  rintro e w4 ⟨rfl, i4, t4⟩
  have I4 : Hid (IsRd w4 R f len s4.1 s4.2) := i4
  have T4 : Hid (Turn R (w.alloc (.cells #[.int .i64 0, .int .i64 0, .int .i64 0, .int .i64 0, .int .i64 0, .int .i64 0, .string ⟨#[]⟩, .int .i64 0, .string ⟨#[]⟩] 25)) w4) := T3.out.trans t4
  clear i4 t4 I3 T3
  go_wp2_with fail
  refine (rdnum_l (s := s4) H4.out _ I4.out).mono ?_
  rintro e w5 ⟨rfl, i5, t5⟩
  have I5 : Hid (IsRd w5 R f len s5.1 s5.2) := i5
  have T5 : Hid (Turn R (w.alloc (.cells #[.int .i64 0, .int .i64 0, .int .i64 0, .int .i64 0, .int .i64 0, .int .i64 0, .string ⟨#[]⟩, .int .i64 0, .string ⟨#[]⟩] 25)) w5) := T4.out.trans t5
  clear i5 t5 I4 T4
  go_wp2_with fail
  refine (rdnum_l (s := s5) H5.out _ I5.out).mono ?_
  rintro e w6 ⟨rfl, i6, t6⟩
  have I6 : Hid (IsRd w6 R f len s6.1 s6.2) := i6
  have T6 : Hid (Turn R (w.alloc (.cells #[.int .i64 0, .int .i64 0, .int .i64 0, .int .i64 0, .int .i64 0, .int .i64 0, .string ⟨#[]⟩, .int .i64 0, .string ⟨#[]⟩] 25)) w6) := T5.out.trans t6
  clear i6 t6 I5 T5
  go_wp2_with fail
  refine (rdtext_l (s := s6) H6.out _ I6.out).mono ?_
  rintro e w7 ⟨rfl, i7, t7⟩
  have I7 : Hid (IsRd w7 R f len s7.1 s7.2) := i7
  have T7 : Hid (Turn R (w.alloc (.cells #[.int .i64 0, .int .i64 0, .int .i64 0, .int .i64 0, .int .i64 0, .int .i64 0, .string ⟨#[]⟩, .int .i64 0, .string ⟨#[]⟩] 25)) w7) := T6.out.trans t7
  clear i7 t7 I6 T6
  go_wp2_with fail
  refine (rdnum_l (s := s7) H7.out _ I7.out).mono ?_
  rintro e w8 ⟨rfl, i8, t8⟩
  have I8 : Hid (IsRd w8 R f len s8.1 s8.2) := i8
  have T8 : Hid (Turn R (w.alloc (.cells #[.int .i64 0, .int .i64 0, .int .i64 0, .int .i64 0, .int .i64 0, .int .i64 0, .string ⟨#[]⟩, .int .i64 0, .string ⟨#[]⟩] 25)) w8) := T7.out.trans t8
  clear i8 t8 I7 T7
  go_wp2_with fail
  refine (rdtext_l (s := s8) H8.out _ I8.out).mono ?_
  rintro e w9 ⟨rfl, i9, t9⟩
  have I9 : Hid (IsRd w9 R f len s9.1 s9.2) := i9
  have T9 : Hid (Turn R (w.alloc (.cells #[.int .i64 0, .int .i64 0, .int .i64 0, .int .i64 0, .int .i64 0, .int .i64 0, .string ⟨#[]⟩, .int .i64 0, .string ⟨#[]⟩] 25)) w9) := T8.out.trans t9
  clear i9 t9 I8 T8
  have n9 := N0.out.turn T9.out HAR.out
  have HI : Hid (IsRd (nine w9 A (.int .i64 n0) (.int .i64 n1) (.int .i64 n2) (.int .i64 n3) (.int .i64 n4) (.int .i64 n5) (.string x6) (.int .i64 n7) (.string x8)) R f len s9.1 s9.2) := I9.out.nine HAR.out n9 _ _ _ _ _ _ _ _ _
  have HB : Hid (∀ w0 : World, Below w0.heap.size w0 w → w0.heap.size ≤ R → Below w0.heap.size w0 (nine w9 A (.int .i64 n0) (.int .i64 n1) (.int .i64 n2) (.int .i64 n3) (.int .i64 n4) (.int .i64 n5) (.string x6) (.int .i64 n7) (.string x8))) := fun w0 hb hR =>
    below_nine (T9.out.below (hb.trans (W0.out.mono hb.size)) hR) (by rw [HA.out]; exact hb.size) _ _ _ _ _ _ _ _ _
  have c0 := n9.cell 0
  have c1 := n9.cell 1
  have c2 := n9.cell 2
  have c3 := n9.cell 3
  have c4 := n9.cell 4
  have c5 := n9.cell 5
  have c6 := n9.cell 6
  have c7 := n9.cell 7
  have c8 := n9.cell 8
  have z := n9.frozen
  simp only [List.getElem?_toArray, List.getElem?_cons_zero, List.getElem?_cons_succ] at c0 c1 c2 c3 c4 c5 c6 c7 c8
  clear n9 N0 T9 I9 W0 H0 H1 H2 H3 H4 H5 H6 H7 H8
  go_wp2_with fail
  refine bodyPost_ret (v := .agg #[.int .i64 n0, .int .i64 n1, .int .i64 n2, .int .i64 n3, .int .i64 n4, .int .i64 n5, .string x6, .int .i64 n7, .string x8]) (by simp [results, Try.results20]; go_simp) rfl ?_
  exact ⟨rfl, HI.out, HB.out⟩
end Go.Proofs.Ytcdkpflhpeflcaa
