/-
  THE PROGRAM's READER: Read, Num, Text, End, Wrong, At.
-/
import Derived.Test.YtcdkpflhpeflcaaPeek
namespace Go.Proofs.Ytcdkpflhpeflcaa
open Go.RowKit

/-- Nothing but the second and third cell of block R has turned. -/
structure Turn (R : Nat) (w w' : World) : Prop where
  os : w'.os = w.os
  tape : w'.tape = w.tape
  output : w'.output = w.output
  size : w'.heap.size = w.heap.size
  block : ∀ b, b ≠ R → w'.heap[b]? = w.heap[b]?
  cells : ∀ x : Addr, x ≠ ⟨R, 1, none⟩ → x ≠ ⟨R, 2, none⟩ → w'.cell? x = w.cell? x
theorem Turn.refl (R : Nat) (w : World) : Turn R w w := ⟨rfl, rfl, rfl, rfl, fun _ _ => rfl, fun _ _ _ => rfl⟩
theorem Turn.trans {R : Nat} {a b c : World} (h : Turn R a b) (k : Turn R b c) : Turn R a c :=
  ⟨k.os.trans h.os, k.tape.trans h.tape, k.output.trans h.output, k.size.trans h.size, fun i hi => (k.block i hi).trans (h.block i hi), fun x h1 h2 => (k.cells x h1 h2).trans (h.cells x h1 h2)⟩
theorem Turn.drewN (R : Nat) (w : World) (n : Nat) : Turn R w (w.drewN n) := by
  have h := below_drewN (B := w.heap.size) (Below.refl _ w) n
  have e : (w.drewN n).heap = w.heap := by simp
  exact ⟨h.os, h.tape, h.output, by rw [e], fun b _ => by rw [e], fun x _ _ => World.cell?_of_block (by rw [e])⟩
theorem Turn.set (R o : Nat) (w : World) (v : Value) (ho : o = 1 ∨ o = 2 := by first | exact .inl rfl | exact .inr rfl) : Turn R w (w.setCell ⟨R, o, none⟩ v) :=
  ⟨rfl, rfl, rfl, by simp [World.setCell], fun b hb => Below.heap_setCell _ _ _ _ hb, fun x h1 h2 => World.cell?_setCell_other _ _ _ _ (fun e => by
    rcases ho with rfl | rfl
    · exact h1 e.symm
    · exact h2 e.symm)⟩
theorem Turn.below {R B : Nat} {w0 w w' : World} (h : Turn R w w') (hb : Below B w0 w) (hB : B ≤ R) : Below B w0 w' :=
  hb.trans ⟨h.os, h.tape, h.output, by rw [h.size]; exact Nat.le_refl _, fun k hk => h.block k (by omega)⟩
theorem Turn.cell {R b o : Nat} {w w' : World} (h : Turn R w w') (hb : b ≠ R) : w'.cell? ⟨b, o, none⟩ = w.cell? ⟨b, o, none⟩ :=
  World.cell?_of_block (a := ⟨b, o, none⟩) (h.block b hb)
theorem Turn.fz {R b o : Nat} {w w' : World} (h : Turn R w w') (hb : b ≠ R) : w'.frozen? ⟨b, o, none⟩ = w.frozen? ⟨b, o, none⟩ :=
  World.frozen?_of_block (a := ⟨b, o, none⟩) (h.block b hb)

theorem RowF.set {w : World} {a : Option Addr} {f : Nat → Nat} {n R o : Nat} {u v : Value} (h : RowF w a f n) (hc : w.cell? ⟨R, o, none⟩ = some u) (hu : ∀ x, u ≠ .int .u8 x) : RowF (w.setCell ⟨R, o, none⟩ v) a f n := by
  rcases h with h | ⟨p, off, e, hr⟩
  · exact .inl h
  · refine .inr ⟨p, off, e, fun i hi => ?_⟩
    rw [World.cell?_setCell_other _ _ _ _ (fun e2 => by
      have := hr i hi
      rw [← e2, hc] at this
      injection this with this
      exact hu _ this)]
    exact hr i hi
theorem IsRd.setAt {w : World} {R len at' wr k : Nat} {f : Nat → Nat} (h : IsRd w R f len at' wr) (hk : k ≤ len) : IsRd (w.setCell ⟨R, 1, none⟩ (.int .i64 ((k : Nat) : Int))) R f len k wr := by
  obtain ⟨⟨a, c, hb, hlc, ra⟩, hp, he, f1, f2, hat, lim, fb⟩ := h
  refine ⟨⟨a, c, ?_, hlc, ra.set hp (fun x e => by cases e)⟩, World.cell?_setCell_same _ _ _ hp, ?_, by rw [World.frozen?_setCell]; exact f1, by rw [World.frozen?_setCell]; exact f2, hk, lim, fb⟩
  · rw [World.cell?_setCell_other _ _ _ _ (fun e => by injection e with _ e _; cases e)]; exact hb
  · rw [World.cell?_setCell_other _ _ _ _ (fun e => by injection e with _ e _; cases e)]; exact he
theorem IsRd.setWr {w : World} {R len at' wr k : Nat} {f : Nat → Nat} (h : IsRd w R f len at' wr) : IsRd (w.setCell ⟨R, 2, none⟩ (.int .i64 ((k : Nat) : Int))) R f len at' k := by
  obtain ⟨⟨a, c, hb, hlc, ra⟩, hp, he, f1, f2, hat, lim, fb⟩ := h
  refine ⟨⟨a, c, ?_, hlc, ra.set he (fun x e => by cases e)⟩, ?_, World.cell?_setCell_same _ _ _ he, by rw [World.frozen?_setCell]; exact f1, by rw [World.frozen?_setCell]; exact f2, hat, lim, fb⟩
  · rw [World.cell?_setCell_other _ _ _ _ (fun e => by injection e with _ e _; cases e)]; exact hb
  · rw [World.cell?_setCell_other _ _ _ _ (fun e => by injection e with _ e _; cases e)]; exact hp
theorem IsRd.up {w w' : World} {R len at' wr : Nat} {f : Nat → Nat} (h : IsRd w R f len at' wr) (hb : Below w.heap.size w w') : IsRd w' R f len at' wr := by
  obtain ⟨⟨a, c, h0, hlc, ra⟩, hp, he, f1, f2, hat, lim, fb⟩ := h
  have e := hb.block R (World.block_lt_of_cell? _ _ hp)
  exact ⟨⟨a, c, cell_up hb h0, hlc, ra.below hb⟩, cell_up hb hp, cell_up hb he, (World.frozen?_of_block (a := ⟨R, 1, none⟩) e).trans f1, (World.frozen?_of_block (a := ⟨R, 2, none⟩) e).trans f2, hat, lim, fb⟩
theorem IsRd.drewN {w : World} {R len at' wr : Nat} {f : Nat → Nat} (h : IsRd w R f len at' wr) (n : Nat) : IsRd (w.drewN n) R f len at' wr := h.up (below_drewN (Below.refl _ _) n)
theorem RowF.turn {w w' : World} {a : Option Addr} {f : Nat → Nat} {n R : Nat} (h : RowF w a f n) (ht : Turn R w w') (hR : ∀ p off, a = some ⟨p, off, none⟩ → 0 < n → p ≠ R) : RowF w' a f n := by
  by_cases h0 : n = 0
  · exact .inl h0
  rcases h with h | ⟨p, off, e, hr⟩
  · exact absurd h h0
  · exact .inr ⟨p, off, e, fun i hi => by rw [ht.cell (hR p off e (by omega))]; exact hr i hi⟩

/-- The number, the place, the error behind Num. -/
theorem pk_cases (f : Nat → Nat) (len at' wr : Nat) (hat : at' ≤ len) (fb : ∀ i, f i < 256) : (∃ e, pk f len at' wr = (0, 0, e) ∧ e ≠ 0 ∧ (wr ≠ 0 → e = wr)) ∨ ∃ c s, pk f len at' wr = (c, s, 0) ∧ wr = 0 ∧ 0 < s ∧ at' + s ≤ len ∧ c < 18446744073709551616 := by
  by_cases hw : wr = 0
  · subst hw
    rw [pk_0]
    rcases scan_kind (fun i => f (at' + i)) (len - at') 0 0 with ⟨e, h1, h2⟩ | ⟨c, s, h1, h2, h3⟩
    · exact .inl ⟨e, h1, by omega, fun h => absurd rfl h⟩
    · have := scan_lt (fun i => f (at' + i)) (fun i => fb _) (len - at') 0 0 c s (by omega) (by decide) h1
      exact .inr ⟨c, s, h1, rfl, h2, by omega, this.1⟩
  · exact .inl ⟨wr, pk_wr hw, hw, fun _ => rfl⟩

theorem read_any (a : Option Addr) (n c : Nat) (f : Nat → Nat) (fb : ∀ i, f i < 256) (hn : n ≤ 140737488355328) (w : World) (ra : RowF w a f n) :
    Calls Try.prog 19 #[.slice a n c] w fun e w' => ∃ R, e = .returned (.pointer (some ⟨R, 0, none⟩)) ∧ w.heap.size ≤ R ∧ IsRd w' R f n 0 0 ∧ Below w.heap.size w w' := by
  go_enter Try.func19, Try.ntmps19
  go_wp2_with fail
  refine (clone_any a n c f hn _ ra).mono ?_
  rintro e w2 ⟨v, rfl, O1, B1⟩
  obtain ⟨a1, c1, rfl, hc1, r1⟩ := O1.row
  rw [tab_length] at r1 hc1
  have r2 : RowF w2 a1 f n := by
    rcases r1 with h | ⟨p, off, e, hr⟩
    · exact .inl h
    · exact .inr ⟨p, off, e, fun i hi => by rw [hr i hi, lf_tab hi]⟩
  rw [tab_length]
  have HB : Hid (Below w.heap.size w w2) := B1
  have H2 : Hid (RowF w2 a1 f n) := r2
  have HF : Hid (∀ i, f i < 256) := fb
  clear O1 B1 r1 r2 ra fb
  go_wp2_with fail
  go_ret
  have b3 : Below w2.heap.size w2 (w2.alloc (.cells #[.slice a1 n c1, .int .i64 0, .int .i64 0] 58)) := (Below.refl _ _).alloc (Nat.le_refl _) _
  refine ⟨w2.heap.size, rfl, HB.out.size, ⟨⟨a1, c1, by rw [World.cell?_alloc_new]; rfl, hc1, H2.out.below b3⟩, by rw [World.cell?_alloc_new]; rfl, by rw [World.cell?_alloc_new]; rfl, World.frozen?_alloc_new _ _ _ _, World.frozen?_alloc_new _ _ _ _, Nat.zero_le _, hn, HF.out⟩, HB.out.trans (b3.mono HB.out.size)⟩
set_option maxHeartbeats 1000000 in
theorem rdnum_any (R len at' wr : Nat) (f : Nat → Nat) (w : World) (h : IsRd w R f len at' wr) :
    Calls Try.prog 32 #[.pointer (some ⟨R, 0, none⟩)] w fun e w' => e = .returned (.int .i64 (unf (pk f len at' wr).1)) ∧ IsRd w' R f len (at' + (pk f len at' wr).2.1) (pk f len at' wr).2.2 ∧ Turn R w w' := by
  go_enter Try.func32, Try.ntmps32
  go_wp2_with fail
  refine (peek_any R len at' wr f _ h).mono ?_
  rintro e w2 ⟨rfl, n, rfl⟩
  have HI : Hid (IsRd (w.drewN n) R f len at' wr) := h.drewN n
  have hat := h.hat
  have lim := h.lim
  rcases pk_cases f len at' wr h.hat h.fb with ⟨e, h1, h2, h3⟩ | ⟨c, s, h1, rfl, h2, h3, h4⟩
  · have H1 : Hid (pk f len at' wr = (0, 0, e)) := h1
    rw [h1]
    have j1 : ((e : Int) != 0) = true := by simp; omega
    have c2 := HI.out.er
    have z2 := HI.out.f2
    clear h h1 h3
    go_wp2_with fail
    go_ret
    rw [H1.out]
    exact ⟨ret_int unf_zero.symm, HI.out.setWr, (Turn.drewN R w n).trans (Turn.set R 2 _ _)⟩
  · have H1 : Hid (pk f len at' 0 = (c, s, 0)) := h1
    rw [h1]
    have c1 := HI.out.pl
    have z1 := HI.out.f1
    clear h h1
    go_wp2_with fail
    go_ret
    rw [H1.out]
    exact ⟨rfl, HI.out.setAt h3, (Turn.drewN R w n).trans (Turn.set R 1 _ _)⟩

/-- What Text tells, the place and the error behind it. -/
def txt (f : Nat → Nat) (len at' wr : Nat) (most : Int) : ByteArray × Nat × Nat :=
  if (pk f len at' wr).2.2 ≠ 0 then (⟨#[]⟩, at', (pk f len at' wr).2.2)
  else if unf (pk f len at' wr).1 < 0 ∨ most < unf (pk f len at' wr).1 then (⟨#[]⟩, at', 2)
  else if ((len - (at' + (pk f len at' wr).2.1) : Nat) : Int) < unf (pk f len at' wr).1 then (⟨#[]⟩, at', 3)
  else (mkS (fun i => f (at' + (pk f len at' wr).2.1 + i)) (unf (pk f len at' wr).1).toNat, at' + (pk f len at' wr).2.1 + (unf (pk f len at' wr).1).toNat, 0)
theorem txt_err {f : Nat → Nat} {len at' wr e : Nat} {most : Int} (h : pk f len at' wr = (0, 0, e)) (he : e ≠ 0) : txt f len at' wr most = (⟨#[]⟩, at', e) := by
  unfold txt; rw [h, if_pos he]
theorem txt_long {f : Nat → Nat} {len at' wr c s : Nat} {most : Int} (h : pk f len at' wr = (c, s, 0)) (h2 : unf c < 0 ∨ most < unf c) : txt f len at' wr most = (⟨#[]⟩, at', 2) := by
  unfold txt; rw [h, if_neg (by simp), if_pos h2]
theorem txt_short {f : Nat → Nat} {len at' wr c s : Nat} {most : Int} (h : pk f len at' wr = (c, s, 0)) (h2 : ¬ (unf c < 0 ∨ most < unf c)) (h3 : ((len - (at' + s) : Nat) : Int) < unf c) : txt f len at' wr most = (⟨#[]⟩, at', 3) := by
  unfold txt; rw [h, if_neg (by simp), if_neg h2, if_pos h3]
theorem txt_ok {f : Nat → Nat} {len at' wr c s : Nat} {most : Int} {n : Nat} (h : pk f len at' wr = (c, s, 0)) (hn : unf c = (n : Int)) (h2 : ¬ most < unf c) (h3 : at' + s + n ≤ len) : txt f len at' wr most = (mkS (fun i => f (at' + s + i)) n, at' + s + n, 0) := by
  unfold txt; rw [h, if_neg (by simp), if_neg (by rw [hn] at h2 ⊢; omega), if_neg (by simp only [hn]; omega)]; simp only [hn, Int.toNat_natCast]

theorem slice_lh (a : Option Addr) (len cap l h : Nat) (hl : l ≤ h) (hh : h ≤ cap) (w : World) : (Instr.sliceAt 22 (.slice a len cap) (some (.int .i64 (l : Int))) (some (.int .i64 (h : Int))) none).run Try.prog w = .ok (.slice (sl a l cap) (h - l) (cap - l)) w := by
  rw [run_sliceAt_slice _ _ _ _ _ _ elem32, run_slice_lh _ _ _ _ _ elem32 _ _ _ _ (by omega) (by omega) (by omega), elem32', size5']
  rfl
set_option maxHeartbeats 1000000 in
theorem rdtext_any (R len at' wr : Nat) (f : Nat → Nat) (most : Int) (w : World) (h : IsRd w R f len at' wr) :
    Calls Try.prog 33 #[.pointer (some ⟨R, 0, none⟩), .int .i64 most] w fun e w' => e = .returned (.string (txt f len at' wr most).1) ∧ IsRd w' R f len (txt f len at' wr most).2.1 (txt f len at' wr most).2.2 ∧ Turn R w w' := by
  go_enter Try.func33, Try.ntmps33
  go_wp2_with fail
  refine (peek_any R len at' wr f _ h).mono ?_
  rintro e w2 ⟨rfl, n, rfl⟩
  have HI : Hid (IsRd (w.drewN n) R f len at' wr) := h.drewN n
  have hat := h.hat
  have lim := h.lim
  have c1 := HI.out.pl
  have c2 := HI.out.er
  have z1 := HI.out.f1
  have z2 := HI.out.f2
  rcases pk_cases f len at' wr h.hat h.fb with ⟨e, h1, h2, h3⟩ | ⟨c, s, h1, rfl, h2, h3, h4⟩
  · have H1 : Hid (txt f len at' wr most = (⟨#[]⟩, at', e)) := txt_err h1 h2
    rw [h1]
    have j1 : ((e : Int) != 0) = true := by simp; omega
    clear h h1 h3
    go_wp2_with fail
    go_ret
    rw [H1.out]
    exact ⟨rfl, HI.out.setWr, (Turn.drewN R w n).trans (Turn.set R 2 _ _)⟩
  · rw [h1]
    have H1 : Hid (pk f len at' 0 = (c, s, 0)) := h1
    obtain ⟨u, hu⟩ : ∃ u, u = unf c := ⟨_, rfl⟩
    have HU : Hid (u = unf c) := hu
    have hu2 := unf_lo h4
    rw [← hu] at hu2 ⊢
    clear h h1 h4 hu
    by_cases hlong : u < 0
    · have HT : Hid (txt f len at' 0 most = (⟨#[]⟩, at', 2)) := txt_long H1.out (.inl (by rw [← HU.out]; exact hlong))
      go_wp2_with fail
      go_ret
      rw [HT.out]
      exact ⟨rfl, HI.out.setWr (k := 2), (Turn.drewN R w n).trans (Turn.set R 2 _ _)⟩
    · have j1 : decide (u < (0 : Int)) = false := by simp; omega
      by_cases hlong2 : most < u
      · have HT : Hid (txt f len at' 0 most = (⟨#[]⟩, at', 2)) := txt_long H1.out (.inr (by rw [← HU.out]; exact hlong2))
        go_wp2_with fail
        go_ret
        rw [HT.out]
        exact ⟨rfl, HI.out.setWr (k := 2), (Turn.drewN R w n).trans (Turn.set R 2 _ _)⟩
      · have j2 : decide (most < u) = false := by simp; omega
        obtain ⟨a, cp, hb, hlc, ra⟩ := HI.out.bs
        have RA : Hid (RowF (w.drewN n) a f len) := ra
        clear ra
        by_cases hsh : (len : Int) - ((at' : Int) + (s : Int)) < u
        · have HT : Hid (txt f len at' 0 most = (⟨#[]⟩, at', 3)) := txt_short H1.out (by rw [← HU.out]; omega) (by rw [← HU.out]; omega)
          go_wp2_with fail
          go_ret
          rw [HT.out]
          exact ⟨rfl, HI.out.setWr (k := 3), (Turn.drewN R w n).trans (Turn.set R 2 _ _)⟩
        · have j3 : decide ((len : Int) - ((at' : Int) + (s : Int)) < u) = false := by simp; omega
          obtain ⟨k, rfl⟩ : ∃ k : Nat, u = (k : Int) := ⟨u.toNat, by omega⟩
          have HT : Hid (txt f len at' 0 most = (mkS (fun i => f (at' + s + i)) k, at' + s + k, 0)) := txt_ok H1.out HU.out.symm (by rw [← HU.out]; exact hlong2) (by omega)
          obtain ⟨X, hX⟩ : ∃ X : Int, X = (at' : Int) + (s : Int) := ⟨_, rfl⟩
          obtain ⟨Y, hY⟩ : ∃ Y : Int, Y = (at' : Int) + (s : Int) + (k : Int) := ⟨_, rfl⟩
          have e1 : ∀ w, (Instr.sliceAt 22 (.slice a len cp) (some (.int .i64 ((at' : Int) + (s : Int)))) (some (.int .i64 ((at' : Int) + (s : Int) + (k : Int)))) none).run Try.prog w = .ok (.slice (sl a (at' + s) cp) k (cp - (at' + s))) w := by
            have := slice_lh a len cp (at' + s) (at' + s + k) (by omega) (by omega)
            rw [show at' + s + k - (at' + s) = k by omega] at this
            exact this
          obtain ⟨sa, hsa⟩ : ∃ sa, sa = sl a (at' + s) cp := ⟨_, rfl⟩
          rw [← hsa] at e1
          obtain ⟨W, hW⟩ : ∃ W, W = (w.drewN n).setCell ⟨R, 1, none⟩ (.int .i64 ((at' : Int) + (s : Int) + (k : Int))) := ⟨_, rfl⟩
          have I2 : IsRd W R f len (at' + s + k) 0 := by rw [hW]; exact HI.out.setAt (k := at' + s + k) (by omega)
          have r2 : RowF W a f len := by rw [hW]; exact RA.out.set c1 (fun x e => by cases e)
          have T2 : Turn R w W := by rw [hW]; exact (Turn.drewN R w n).trans (Turn.set R 1 _ _)
          have r3 : RowF W sa (fun i => f (at' + s + i)) k := by
            rw [hsa]
            exact (r2.cut (at' + s) cp hlc).short (by omega)
          have e2 : ∀ d, (convert 22 9 (.slice sa k (cp - (at' + s)))).run Try.prog (W.drewN d) = .ok (.string (mkS (fun i => f (at' + s + i)) k)) (W.drewN d) := fun d =>
            conv_str (W.drewN d) sa k (cp - (at' + s)) _ (r3.below (below_drewN (Below.refl _ _) d))
          have c3 : W.cell? ⟨R, 0, none⟩ = some (.slice a len cp) := by
            rw [hW, World.cell?_setCell_other _ _ _ _ (fun e => by injection e with _ e _; cases e)]; exact hb
          have c4 := I2.pl
          have HI2 : Hid (IsRd W R f len (at' + s + k) 0) := I2
          have HT2 : Hid (Turn R w W) := T2
          clear hX hY I2 r2 r3 T2 hsa
          go_wp2_with fail
          rw [← hW]
          clear hW
          go_quiet (fail)
          go_wp2_with fail
          go_ret
          rw [HT.out]
          exact ⟨rfl, HI2.out.drewN nq, HT2.out.trans (Turn.drewN R W nq)⟩

/-- The error behind End. -/
def endE (len at' wr : Nat) : Nat := if wr = 0 ∧ at' < len then 5 else wr
set_option maxHeartbeats 1000000 in
theorem rdend_any (R len at' wr : Nat) (f : Nat → Nat) (w : World) (h : IsRd w R f len at' wr) :
    Calls Try.prog 21 #[.pointer (some ⟨R, 0, none⟩)] w fun e w' => e = .returned (.int .i64 ((endE len at' wr : Nat) : Int)) ∧ IsRd w' R f len at' (endE len at' wr) ∧ Turn R w w' := by
  have HI : Hid (IsRd w R f len at' wr) := h
  have hat := h.hat
  have lim := h.lim
  have c1 := h.pl
  have c2 := h.er
  have z2 := h.f2
  obtain ⟨a, cp, hb, hlc, ra⟩ := h.bs
  clear h ra
  by_cases hw : wr = 0
  · subst hw
    by_cases hl : at' < len
    · have HE : Hid (endE len at' 0 = 5) := by show _ = _; unfold endE; rw [if_pos ⟨rfl, hl⟩]
      have j1 : (at' : Int) < (len : Int) := by omega
      go_enter Try.func21, Try.ntmps21
      go_wp2_with fail
      go_quiet (fail)
      go_wp2_with fail
      go_ret
      rw [HE.out]
      exact ⟨rfl, (HI.out.drewN nq).setWr (k := 5), (Turn.drewN R w nq).trans (Turn.set R 2 _ _)⟩
    · have HE : Hid (endE len at' 0 = 0) := by show _ = _; unfold endE; rw [if_neg (fun h => hl h.2)]
      have j1 : decide ((at' : Int) < (len : Int)) = false := by simp; omega
      go_enter Try.func21, Try.ntmps21
      go_wp2_with fail
      go_quiet (fail)
      go_wp2_with fail
      go_ret
      rw [HE.out]
      exact ⟨rfl, HI.out.drewN nq, Turn.drewN R w nq⟩
  · have HE : Hid (endE len at' wr = wr) := by show _ = _; unfold endE; rw [if_neg (fun h => hw h.1)]
    have j1 : ((wr : Int) == 0) = false := by simp; omega
    go_enter Try.func21, Try.ntmps21
    go_wp2_with fail
    go_quiet (fail)
    go_wp2_with fail
    go_ret
    rw [HE.out]
    exact ⟨rfl, HI.out.drewN nq, Turn.drewN R w nq⟩
end Go.Proofs.Ytcdkpflhpeflcaa
