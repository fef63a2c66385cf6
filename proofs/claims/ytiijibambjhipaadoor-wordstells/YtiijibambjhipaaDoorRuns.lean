/-
  Same, wrong; WORDSRUNS walked.
-/
import Derived.Test.YtiijibambjhipaaDoorLine
namespace Go.Proofs.YtiijibambjhipaaDoor
open Go.RowKit

set_option maxRecDepth 100000 in
theorem same_any (l : List B) (a1 a2 : Option Addr) (n1 n2 c1 c2 : Nat) (hl : l.length ≤ 100000) (w : World) (h1 : Strs w (.slice a1 n1 c1) l) (h2 : Strs w (.slice a2 n2 c2) l) :
    Calls Tryd.prog 10 #[.slice a1 n1 c1, .slice a2 n2 c2] w fun e w' => e = .returned (.bool true) ∧ Below w.heap.size w w' := by
  obtain ⟨e1, _⟩ := h1.len
  obtain ⟨e2, _⟩ := h2.len
  obtain ⟨n, hn⟩ : ∃ n, l.length = n := ⟨_, rfl⟩
  rw [hn] at e1 e2 hl
  subst n1 n2
  replace hn := hn.symm
  have H1 := Lib.hid h1
  have H2 := Lib.hid h2
  have HN := Lib.hid hn
  have nbd : n ≤ 100000 := hl
  have ne : ((n : Int) != (n : Int)) = false := by simp
  clear h1 h2 hn hl
  go_enter Tryd.func10, Tryd.ntmps10
  go_wp2_with fail
  go_loopw [5] (fun i wr => ∃ j m : Nat, j ≤ n ∧ i = .int .i64 (j : Int) ∧ Hid (wr = w.drewN m)) (fun i _ => n - (intOf i).toNat)
  case atStart => exact ⟨0, 0, by omega, rfl, rfl⟩
  case round =>
    obtain ⟨j, m, hj, rfl, HW⟩ := hrel
    by_cases hlt : j < n
    · obtain ⟨x, hx⟩ : ∃ x, l[j]? = some x := ⟨_, List.getElem?_eq_getElem (by rw [← HN.out]; exact hlt)⟩
      obtain ⟨g1, q1, f1, d1⟩ := H1.out.at_ hx
      obtain ⟨g2, q2, f2, d2⟩ := H2.out.at_ hx
      subst f1 f2
      have D1 : wr.cell? ⟨g1, q1 + j, none⟩ = some (.string (S x)) := by rw [HW.out]; exact d1
      have D2 : wr.cell? ⟨g2, q2 + j, none⟩ = some (.string (S x)) := by rw [HW.out]; exact d2
      have hi1 : (j : Int) < (n : Int) := by omega
      clear d1 d2 hx
      go_wp2_with fail
      go_quiet (fail)
      go_wp2_with fail
      exact ⟨⟨j + 1, m + nq, by omega, by go_num, by show _ = _; rw [HW.out, World.drewN_drewN]⟩, by simp [intOf]; omega⟩
    · have hi1 : decide ((j : Int) < (n : Int)) = false := decide_eq_false (by omega)
      go_wp2_with fail
      go_ret
      exact ⟨rfl, by rw [HW.out]; exact below_drewN (Below.refl _ _) m⟩
/-- Line, its answer by letters. -/
theorem line_c (s : ByteArray) (hs : s.size ≤ 100000) {v : Nat} {ks : List B} {f x b c : Int} {d : Nat} {q : Bool} {er : Nat} (h : line (L s) = (⟨v, ks, f, x, b, c, d, q⟩, er)) (V D E : Int) (hV : ((v : Nat) : Int) = V) (hD : ((d : Nat) : Int) = D) (hE : ((er : Nat) : Int) = E) (w : World) (ht : HasTab w) :
    Calls Tryd.prog 9 #[.string s] w fun e w' => ∃ a n cp, e = .returned (.tuple #[.agg #[.int .i64 V, .slice a n cp, .int .i64 f, .int .i64 x, .int .i64 b, .int .i64 c, .int .u64 D, .bool q, .string ⟨#[]⟩], .int .i64 E]) ∧ Strs w' (.slice a n cp) ks ∧ Below w.heap.size w w' := by
  have := line_any s hs w ht
  rw [h] at this
  subst hV hD hE
  exact this
theorem lit_strs (w : World) (l : List B) : Strs (w.alloc (.cells (sc l).toArray 9)) (.slice (some ⟨w.heap.size, 0, none⟩) l.length l.length) l :=
  ⟨_, _, rfl, Nat.le_refl _, fun _ => ⟨_, 0, rfl, fun i x hx => by rw [Nat.zero_add, World.cell?_alloc_new]; simp [sc, hx]⟩⟩
theorem lay_new (w : World) (cs : List Value) : (w.alloc (.cells cs.toArray 25)).rangeAt w.heap.size 0 cs := fun j v hv => by
  rw [Nat.zero_add, World.cell?_alloc_new, List.getElem?_toArray]; exact hv
theorem lay_up {w w' : World} {G : Nat} {cs : List Value} (b : Below w.heap.size w w') (h : w.rangeAt G 0 cs) : w'.rangeAt G 0 cs := fun j v hv => cell_up b (h j v hv)
/-- Same, of a list and one that is written out. -/
theorem same_lit (l : List B) (cs : Array Value) (k : Nat) (hcs : cs = (sc l).toArray) (hk : l.length = k) (a : Option Addr) (n c : Nat) (hl : l.length ≤ 100000) (w : World) (m : Nat) (hm : w.heap.size = m) (h : Strs w (.slice a n c) l) :
    Calls Tryd.prog 10 #[.slice a n c, .slice (some ⟨m, 0, none⟩) k k] (w.alloc (.cells cs 9)) fun e w' => e = .returned (.bool true) ∧ Below w.heap.size w w' := by
  subst hcs hk hm
  have b0 := (Below.refl w.heap.size w).alloc (Nat.le_refl _) (.cells (sc l).toArray 9)
  refine (same_any l _ _ _ _ _ _ hl _ (h.below b0) (lit_strs w l)).mono ?_
  rintro e w' ⟨rfl, b⟩
  exact ⟨rfl, b0.trans (b.mono b0.size)⟩
set_option maxRecDepth 100000 in
theorem wrong_any (s : ByteArray) (hs : s.size ≤ 100000) (E : Int) (h : (((line (L s)).2 : Nat) : Int) = E) (w : World) (ht : HasTab w) : Calls Tryd.prog 11 #[.string s] w fun e w' => e = .returned (.int .i64 E) ∧ Below w.heap.size w w' := by
  have HC := line_any s hs w ht
  rw [h] at HC
  clear h
  generalize (line (L s)).1 = r at HC
  obtain ⟨v, ks, f, x, b, c, d, q⟩ := r
  simp only [Rq.v, Rq.cs] at HC
  clear ht
  go_enter Tryd.func11, Tryd.ntmps11
  go_wp2_with fail
  refine HC.mono ?_
  rintro e w1 ⟨a, n, cp, rfl, _, b1⟩
  have HB := Lib.hid b1
  clear b1
  go_wp2_with fail
  go_ret
  exact ⟨rfl, HB.out.alloc HB.out.size _⟩
theorem run_0 : line (L ⟨#[115, 101, 116, 32, 97, 32, 49, 32, 45, 50, 32, 51, 32, 110, 111, 114, 101, 112, 108, 121]⟩) = (⟨3, [[97]], 1, -2, 3, 0, 0, true⟩, 0) := by kernel_rfl
theorem run_1 : line (L ⟨#[103, 101, 116, 32, 97, 32, 32, 98]⟩) = (⟨1, [[97], [98]], 0, 0, 0, 0, 0, false⟩, 0) := by kernel_rfl
theorem run_2 : line (L ⟨#[105, 110, 99, 114, 32, 97, 32, 49, 56, 52, 52, 54, 55, 52, 52, 48, 55, 51, 55, 48, 57, 53, 53, 49, 54, 49, 53]⟩) = (⟨10, [[97]], 0, 0, 0, 0, 18446744073709551615, false⟩, 0) := by kernel_rfl
theorem run_3 : line (L ⟨#[100, 101, 108, 101, 116, 101, 32, 110, 111, 114, 101, 112, 108, 121]⟩) = (⟨9, [[110, 111, 114, 101, 112, 108, 121]], 0, 0, 0, 0, 0, false⟩, 0) := by kernel_rfl
theorem bad_0 : (((line (L ⟨#[110, 105, 120]⟩)).2 : Nat) : Int) = 4 := by kernel_rfl
theorem bad_1 : (((line (L ⟨#[115, 101, 116, 32, 97, 32, 49, 32, 50]⟩)).2 : Nat) : Int) = 4 := by kernel_rfl
theorem bad_2 : (((line (L ⟨#[115, 101, 116, 32, 97, 32, 120, 32, 48, 32, 49]⟩)).2 : Nat) : Int) = 1 := by kernel_rfl
theorem bad_3 : (((line (L ⟨#[105, 110, 99, 114, 32, 97, 32, 49, 56, 52, 52, 54, 55, 52, 52, 48, 55, 51, 55, 48, 57, 53, 53, 49, 54, 49, 54]⟩)).2 : Nat) : Int) = 1 := by kernel_rfl
set_option maxRecDepth 100000 in
set_option maxHeartbeats 2000000 in
theorem runs_any (w : World) (ht : HasTab w) : Calls Tryd.prog 3 #[] w fun e w' => e = .returned (.bool true) ∧ Below w.heap.size w w' := by
  have HT := Lib.hid ht
  have HB0 : Hid (Below w.heap.size w w) := Lib.hid (Below.refl _ _)
  clear ht
  go_enter Tryd.func3, Tryd.ntmps3
  go_wp2_with fail
  obtain ⟨X0, hX0⟩ : ∃ X, X = w := ⟨_, rfl⟩
  rw [← hX0]
  have BB0 : Hid (Below w.heap.size w X0) := Lib.hid (by rw [hX0]; exact Below.refl _ _)
  clear hX0
  refine (line_c _ (by decide) run_0 3 0 0 rfl rfl rfl _ (HT.out.below BB0.out)).mono ?_
  rintro e w1 ⟨a1, n1, c1, rfl, S1, b1⟩
  obtain ⟨X1, hX1⟩ : ∃ X, X = w1.alloc (.cells #[.int .i64 3, .slice a1 n1 c1, .int .i64 1, .int .i64 (-2), .int .i64 3, .int .i64 0, .int .u64 0, .bool true, .string ⟨#[]⟩] 25) := ⟨_, rfl⟩
  obtain ⟨G1, hG1⟩ : ∃ G, G = w1.heap.size := ⟨_, rfl⟩
  have bx1 : Below w1.heap.size w1 X1 := by rw [hX1]; exact (Below.refl _ _).alloc (Nat.le_refl _) _
  have BB1 : Hid (Below w.heap.size w X1) := Lib.hid ((BB0.out.trans (b1.mono BB0.out.size)).trans (bx1.mono (BB0.out.trans (b1.mono BB0.out.size)).size))
  have BX1 : Hid (Below X0.heap.size X0 X1) := Lib.hid (b1.trans (bx1.mono b1.size))
  have HF1 : Hid (X1.rangeAt G1 0 [.int .i64 3, .slice a1 n1 c1, .int .i64 1, .int .i64 (-2), .int .i64 3, .int .i64 0, .int .u64 0, .bool true, .string ⟨#[]⟩] ∧ Strs X1 (.slice a1 n1 c1) [[97]]) := Lib.hid ⟨by rw [hX1, hG1]; exact lay_new _ _, S1.below bx1⟩
  have HX1 := Lib.hid hX1
  have HG1 := Lib.hid hG1
  clear S1 b1 bx1 hX1 hG1
  go_wp2_with fail
  rw [← HX1.out, ← HG1.out]
  refine (line_c _ (by decide) run_1 1 0 0 rfl rfl rfl _ (HT.out.below BB1.out)).mono ?_
  rintro e w2 ⟨a2, n2, c2, rfl, S2, b2⟩
  obtain ⟨X2, hX2⟩ : ∃ X, X = w2.alloc (.cells #[.int .i64 1, .slice a2 n2 c2, .int .i64 0, .int .i64 0, .int .i64 0, .int .i64 0, .int .u64 0, .bool false, .string ⟨#[]⟩] 25) := ⟨_, rfl⟩
  obtain ⟨G2, hG2⟩ : ∃ G, G = w2.heap.size := ⟨_, rfl⟩
  have bx2 : Below w2.heap.size w2 X2 := by rw [hX2]; exact (Below.refl _ _).alloc (Nat.le_refl _) _
  have BB2 : Hid (Below w.heap.size w X2) := Lib.hid ((BB1.out.trans (b2.mono BB1.out.size)).trans (bx2.mono (BB1.out.trans (b2.mono BB1.out.size)).size))
  have BX2 : Hid (Below X1.heap.size X1 X2) := Lib.hid (b2.trans (bx2.mono b2.size))
  have HF2 : Hid (X2.rangeAt G2 0 [.int .i64 1, .slice a2 n2 c2, .int .i64 0, .int .i64 0, .int .i64 0, .int .i64 0, .int .u64 0, .bool false, .string ⟨#[]⟩] ∧ Strs X2 (.slice a2 n2 c2) [[97], [98]]) := Lib.hid ⟨by rw [hX2, hG2]; exact lay_new _ _, S2.below bx2⟩
  have HX2 := Lib.hid hX2
  have HG2 := Lib.hid hG2
  clear S2 b2 bx2 hX2 hG2
  go_wp2_with fail
  rw [← HX2.out, ← HG2.out]
  refine (line_c _ (by decide) run_2 10 18446744073709551615 0 rfl rfl rfl _ (HT.out.below BB2.out)).mono ?_
  rintro e w3 ⟨a3, n3, c3, rfl, S3, b3⟩
  obtain ⟨X3, hX3⟩ : ∃ X, X = w3.alloc (.cells #[.int .i64 10, .slice a3 n3 c3, .int .i64 0, .int .i64 0, .int .i64 0, .int .i64 0, .int .u64 18446744073709551615, .bool false, .string ⟨#[]⟩] 25) := ⟨_, rfl⟩
  obtain ⟨G3, hG3⟩ : ∃ G, G = w3.heap.size := ⟨_, rfl⟩
  have bx3 : Below w3.heap.size w3 X3 := by rw [hX3]; exact (Below.refl _ _).alloc (Nat.le_refl _) _
  have BB3 : Hid (Below w.heap.size w X3) := Lib.hid ((BB2.out.trans (b3.mono BB2.out.size)).trans (bx3.mono (BB2.out.trans (b3.mono BB2.out.size)).size))
  have BX3 : Hid (Below X2.heap.size X2 X3) := Lib.hid (b3.trans (bx3.mono b3.size))
  have HF3 : Hid (X3.rangeAt G3 0 [.int .i64 10, .slice a3 n3 c3, .int .i64 0, .int .i64 0, .int .i64 0, .int .i64 0, .int .u64 18446744073709551615, .bool false, .string ⟨#[]⟩] ∧ Strs X3 (.slice a3 n3 c3) [[97]]) := Lib.hid ⟨by rw [hX3, hG3]; exact lay_new _ _, S3.below bx3⟩
  have HX3 := Lib.hid hX3
  have HG3 := Lib.hid hG3
  clear S3 b3 bx3 hX3 hG3
  go_wp2_with fail
  rw [← HX3.out, ← HG3.out]
  refine (line_c _ (by decide) run_3 9 0 0 rfl rfl rfl _ (HT.out.below BB3.out)).mono ?_
  rintro e w4 ⟨a4, n4, c4, rfl, S4, b4⟩
  obtain ⟨X4, hX4⟩ : ∃ X, X = w4.alloc (.cells #[.int .i64 9, .slice a4 n4 c4, .int .i64 0, .int .i64 0, .int .i64 0, .int .i64 0, .int .u64 0, .bool false, .string ⟨#[]⟩] 25) := ⟨_, rfl⟩
  obtain ⟨G4, hG4⟩ : ∃ G, G = w4.heap.size := ⟨_, rfl⟩
  have bx4 : Below w4.heap.size w4 X4 := by rw [hX4]; exact (Below.refl _ _).alloc (Nat.le_refl _) _
  have BB4 : Hid (Below w.heap.size w X4) := Lib.hid ((BB3.out.trans (b4.mono BB3.out.size)).trans (bx4.mono (BB3.out.trans (b4.mono BB3.out.size)).size))
  have BX4 : Hid (Below X3.heap.size X3 X4) := Lib.hid (b4.trans (bx4.mono b4.size))
  have HF4 : Hid (X4.rangeAt G4 0 [.int .i64 9, .slice a4 n4 c4, .int .i64 0, .int .i64 0, .int .i64 0, .int .i64 0, .int .u64 0, .bool false, .string ⟨#[]⟩] ∧ Strs X4 (.slice a4 n4 c4) [noreply]) := Lib.hid ⟨by rw [hX4, hG4]; exact lay_new _ _, S4.below bx4⟩
  have HX4 := Lib.hid hX4
  have HG4 := Lib.hid hG4
  clear S4 b4 bx4 hX4 hG4
  have HS4 := HF4.out.2
  have HS2 := ((HF2.out.2.below BX3.out).below BX4.out)
  have L4 := HF4.out.1
  have L3 := lay_up BX4.out HF3.out.1
  have L2 := lay_up BX4.out (lay_up BX3.out HF2.out.1)
  have L1 := lay_up BX4.out (lay_up BX3.out (lay_up BX2.out HF1.out.1))
  have A0 := L1 0 _ rfl
  have A2 := L1 2 _ rfl
  have A3 := L1 3 _ rfl
  have A4 := L1 4 _ rfl
  have A7 := L1 7 _ rfl
  have B0 := L2 0 _ rfl
  have B1 := L2 1 _ rfl
  rw [Nat.zero_add] at A0 A2 A3 A4 A7 B0 B1
  have HL3 : Hid (∀ Y, Below X4.heap.size X4 Y → Y.cell? ⟨G3, 6, none⟩ = some (.int .u64 18446744073709551615)) := Lib.hid (fun Y b => lay_up b L3 6 _ rfl)
  have HL4 : Hid (∀ Y, Below X4.heap.size X4 Y → Y.cell? ⟨G4, 0, none⟩ = some (.int .i64 9) ∧ Y.cell? ⟨G4, 1, none⟩ = some (.slice a4 n4 c4) ∧ Y.cell? ⟨G4, 7, none⟩ = some (.bool false)) := Lib.hid (fun Y b => ⟨lay_up b L4 0 _ rfl, lay_up b L4 1 _ rfl, lay_up b L4 7 _ rfl⟩)
  have H2 := Lib.hid HS2
  have H4 := Lib.hid HS4
  clear HS2 HS4 L1 L2 L3 L4 HF1 HF2 HF3 HF4 BX1 BX2 BX3 BX4
  have SZ : Hid (X4.heap.size = w4.heap.size + 1) := Lib.hid (by rw [HX4.out, size_alloc])
  rw [HX4.out] at A0 A2 A3 A4 A7 B0 B1 H2 H4 HL3 HL4 BB4 SZ
  rw [HG4.out] at HL4
  clear HX4 HG4 HX3 HX2 HX1
  go_wp2_with fail
  refine (same_lit [[97], [98]] _ 2 rfl rfl a2 n2 c2 (by decide) _ _ SZ.out H2.out).mono ?_
  rintro e w5 ⟨rfl, b5⟩
  have BB5 : Hid (Below w.heap.size w w5) := Lib.hid (BB4.out.trans (b5.mono BB4.out.size))
  have C6 := HL3.out _ b5
  obtain ⟨D0, D1, _⟩ := HL4.out _ b5
  have H45 := Lib.hid (H4.out.below b5)
  have HL47 : Hid (∀ Y, Below w5.heap.size w5 Y → Y.cell? ⟨w4.heap.size, 7, none⟩ = some (.bool false)) := Lib.hid (fun Y b => (HL4.out _ (b5.trans (b.mono b5.size))).2.2)
  clear b5 HL3 HL4 H2 H4 SZ BB4
  go_wp2_with fail
  refine (same_lit [noreply] _ 1 rfl rfl a4 n4 c4 (by decide) _ _ rfl H45.out).mono ?_
  rintro e w6 ⟨rfl, b6⟩
  have BB6 : Hid (Below w.heap.size w w6) := Lib.hid (BB5.out.trans (b6.mono BB5.out.size))
  have D7 := HL47.out _ b6
  clear b6 HL47 H45 BB5
  go_wp2_with fail
  refine (wrong_any ⟨#[110, 105, 120]⟩ (by decide) 4 bad_0 _ (HT.out.below BB6.out)).mono ?_
  rintro e w7 ⟨rfl, b7⟩
  have BB7 : Hid (Below w.heap.size w w7) := Lib.hid (BB6.out.trans (b7.mono BB6.out.size))
  clear b7
  go_wp2_with fail
  refine (wrong_any ⟨#[115, 101, 116, 32, 97, 32, 49, 32, 50]⟩ (by decide) 4 bad_1 _ (HT.out.below BB7.out)).mono ?_
  rintro e w8 ⟨rfl, b8⟩
  have BB8 : Hid (Below w.heap.size w w8) := Lib.hid (BB7.out.trans (b8.mono BB7.out.size))
  clear b8
  go_wp2_with fail
  refine (wrong_any ⟨#[115, 101, 116, 32, 97, 32, 120, 32, 48, 32, 49]⟩ (by decide) 1 bad_2 _ (HT.out.below BB8.out)).mono ?_
  rintro e w9 ⟨rfl, b9⟩
  have BB9 : Hid (Below w.heap.size w w9) := Lib.hid (BB8.out.trans (b9.mono BB8.out.size))
  clear b9
  go_wp2_with fail
  refine (wrong_any ⟨#[105, 110, 99, 114, 32, 97, 32, 49, 56, 52, 52, 54, 55, 52, 52, 48, 55, 51, 55, 48, 57, 53, 53, 49, 54, 49, 54]⟩ (by decide) 1 bad_3 _ (HT.out.below BB9.out)).mono ?_
  rintro e w10 ⟨rfl, b10⟩
  have BB10 : Hid (Below w.heap.size w w10) := Lib.hid (BB9.out.trans (b10.mono BB9.out.size))
  clear b10
  go_wp2_with fail
  go_ret
  exact ⟨rfl, BB10.out⟩
end Go.Proofs.YtiijibambjhipaaDoor
