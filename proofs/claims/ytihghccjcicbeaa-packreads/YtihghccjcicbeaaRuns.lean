/-
  PACKRUNS: chapter 4's runs.
-/
import Derived.Test.YtihghccjcicbeaaRead
namespace Go.Proofs.Ytihghccjcicbeaa
open Go.RowKit

theorem Turn.below' {R : Nat} {w0 w w' : World} (h : Turn R w w') (hb : Below w0.heap.size w0 w) (hR : w0.heap.size ≤ R) : Below w0.heap.size w0 w' := h.below hb hR
theorem wrong_num (a : Option Addr) (n c : Nat) (f : Nat → Nat) (fb : ∀ i, f i < 256) (hn : n ≤ 140737488355328) (K : Int) (w : World) (ra : RowF w a f n) :
    Calls Try.prog 11 #[.slice a n c, .int .i64 1, .int .i64 K] w fun e w' => e = .returned (.int .i64 (((pk f n 0 0).2.2 : Nat) : Int)) ∧ Below w.heap.size w w' := by
  go_enter Try.func11, Try.ntmps11
  go_wp2_with fail
  refine (read_any a n c f fb hn _ ra).mono ?_
  rintro e w2 ⟨R, rfl, hR, h2, hB⟩
  have HB : Hid (Below w.heap.size w w2) := hB
  have H2 : Hid (IsRd w2 R f n 0 0) := h2
  clear hB h2 ra
  go_wp2_with fail
  refine (rdnum_any R n 0 0 f _ H2.out).mono ?_
  rintro e w3 ⟨rfl, h3, t3⟩
  have H3 : Hid (IsRd w3 R f n (0 + (pk f n 0 0).2.1) (pk f n 0 0).2.2) := h3
  have HB3 : Hid (Below w.heap.size w w3) := t3.below HB.out hR
  clear h3 t3
  go_wp2_with fail
  refine (wrong_any R n _ _ f _ H3.out).mono ?_
  rintro e w4 ⟨rfl, rfl⟩
  go_wp2_with fail
  go_ret
  exact ⟨rfl, HB3.out⟩
theorem wrong_text (a : Option Addr) (n c : Nat) (f : Nat → Nat) (fb : ∀ i, f i < 256) (hn : n ≤ 140737488355328) (K : Int) (w : World) (ra : RowF w a f n) :
    Calls Try.prog 11 #[.slice a n c, .int .i64 2, .int .i64 K] w fun e w' => e = .returned (.int .i64 (((txt f n 0 0 K).2.2 : Nat) : Int)) ∧ Below w.heap.size w w' := by
  go_enter Try.func11, Try.ntmps11
  go_wp2_with fail
  refine (read_any a n c f fb hn _ ra).mono ?_
  rintro e w2 ⟨R, rfl, hR, h2, hB⟩
  have HB : Hid (Below w.heap.size w w2) := hB
  have H2 : Hid (IsRd w2 R f n 0 0) := h2
  clear hB h2 ra
  go_wp2_with fail
  refine (rdtext_any R n 0 0 f K _ H2.out).mono ?_
  rintro e w3 ⟨rfl, h3, t3⟩
  have H3 : Hid (IsRd w3 R f n (txt f n 0 0 K).2.1 (txt f n 0 0 K).2.2) := h3
  have HB3 : Hid (Below w.heap.size w w3) := t3.below HB.out hR
  clear h3 t3
  go_wp2_with fail
  refine (wrong_any R n _ _ f _ H3.out).mono ?_
  rintro e w4 ⟨rfl, rfl⟩
  go_wp2_with fail
  go_ret
  exact ⟨rfl, HB3.out⟩
theorem lit_row (w : World) (l : List Nat) (cs : Array Value) (h : cs = (cl l).toArray) : RowF (w.alloc (.cells cs 5)) (some ⟨w.heap.size, 0, none⟩) (lf l) l.length :=
  .inr ⟨w.heap.size, 0, rfl, fun i hi => by rw [World.cell?_alloc_new, h, Nat.zero_add, List.getElem?_toArray]; exact cl_at hi⟩
theorem lit_below (w0 w : World) (o : Obj) (h : Below w0.heap.size w0 w) : Below w0.heap.size w0 (w.alloc o) := h.alloc h.size o
theorem e1 : tab (fun _ => 0) 0 ++ enc (fold (-1)) = [1] := by rw [show fold (-1) = 1 from rfl, enc_lo (by decide)]; rfl
theorem e2 : tab (fun _ => 0) 0 ++ enc (fold 64) = [128, 1] := by rw [show fold 64 = 128 from rfl, enc_hi (by decide), enc_lo (by decide)]; rfl
theorem e3 : tab (fun _ => 0) 0 ++ (enc (ByteArray.size { data := #[97, 98] } * 2) ++ sb { data := #[97, 98] }) = [4, 97, 98] := by
  rw [show ByteArray.size { data := #[97, 98] } * 2 = 4 from rfl, enc_lo (by decide)]; rfl
/-- A list of the call's own, held against a literal of the same bytes. -/
theorem same_lit (w w2 : World) (a : Option Addr) (c k : Nat) (l : List Nat) (cs : Array Value) (hcs : cs = (cl l).toArray) (hl : l.length = k) (hk : k ≤ 1000) (r : RowF w2 a (lf l) l.length) (hb : Below w.heap.size w w2) :
    Calls Try.prog 8 #[.slice a k c, .slice (some ⟨w2.heap.size, 0, none⟩) k k] (w2.alloc (.cells cs 5)) fun e w' => e = .returned (.bool true) ∧ Below w.heap.size w w' := by
  subst hl
  refine (same_any a _ l.length c _ (lf l) (lf l) (by omega) (fun _ _ => rfl) _ (r.below (lit_below _ _ _ (Below.refl _ _))) (lit_row w2 l _ hcs)).mono ?_
  rintro e w3 ⟨rfl, d, rfl⟩
  exact ⟨rfl, below_drewN (lit_below _ _ _ hb) d⟩
theorem p1 : (pk (lf [128, 0]) 2 0 0).2.2 = 4 := by decide
theorem p2 : (pk (lf [128]) 1 0 0).2.2 = 3 := by decide
theorem p3 : (txt (lf [4, 97, 98]) 3 0 0 1).2.2 = 2 := by decide
theorem lf8 (l : List Nat) (h : l.all (· < 256) = true) (i : Nat) : lf l i < 256 := lf_lt (fun x hx => by simpa using List.all_eq_true.1 h x hx) i
set_option maxHeartbeats 1000000 in
theorem runs_any (w : World) : Calls Try.prog 3 #[] w fun e w' => e = .returned (.bool true) ∧ Below w.heap.size w w' := by
  go_enter Try.func3, Try.ntmps3
  go_wp2_with fail
  refine (num_any none 0 0 (fun _ => 0) (-1) (by decide) (by decide) (by decide) _ (.inl rfl)).mono ?_
  rintro e w2 ⟨v, rfl, O1, B1⟩
  rw [e1] at O1
  obtain ⟨a1, c1, rfl, _, r1⟩ := O1.row
  have HB : Hid (Below w.heap.size w w2) := B1
  have R1 : Hid (RowF w2 a1 (lf [1]) 1) := r1
  clear O1 B1 r1
  go_wp2_with fail
  refine (same_lit w w2 a1 c1 1 [1] _ rfl rfl (by decide) R1.out HB.out).mono ?_
  rintro e w3 ⟨rfl, B3⟩
  have HB3 : Hid (Below w.heap.size w w3) := B3
  clear B3 HB R1
  go_wp2_with fail
  refine (num_any none 0 0 (fun _ => 0) 64 (by decide) (by decide) (by decide) _ (.inl rfl)).mono ?_
  rintro e w4 ⟨v, rfl, O1, B1⟩
  rw [e2] at O1
  obtain ⟨a2, c2, rfl, _, r1⟩ := O1.row
  have HB4 : Hid (Below w.heap.size w w4) := HB3.out.trans (B1.mono HB3.out.size)
  have R4 : Hid (RowF w4 a2 (lf [128, 1]) 2) := r1
  clear O1 B1 r1 HB3
  go_wp2_with fail
  refine (same_lit w w4 a2 c2 2 [128, 1] _ rfl rfl (by decide) R4.out HB4.out).mono ?_
  rintro e w5 ⟨rfl, B5⟩
  have HB5 : Hid (Below w.heap.size w w5) := B5
  clear B5 HB4 R4
  go_wp2_with fail
  refine (text_any none 0 0 (fun _ => 0) _ (by decide) _ (.inl rfl)).mono ?_
  rintro e w6 ⟨v, rfl, O1, B1⟩
  rw [e3] at O1
  obtain ⟨a3, c3, rfl, _, r1⟩ := O1.row
  have HB6 : Hid (Below w.heap.size w w6) := HB5.out.trans (B1.mono HB5.out.size)
  have R6 : Hid (RowF w6 a3 (lf [4, 97, 98]) 3) := r1
  clear O1 B1 r1 HB5
  go_wp2_with fail
  refine (same_lit w w6 a3 c3 3 [4, 97, 98] _ rfl rfl (by decide) R6.out HB6.out).mono ?_
  rintro e w7 ⟨rfl, B7⟩
  have HB7 : Hid (Below w.heap.size w w7) := B7
  clear B7 HB6 R6
  go_wp2_with fail
  refine (wrong_num _ 2 2 (lf [128, 0]) (lf8 _ (by decide)) (by decide) _ _ (lit_row w7 [128, 0] _ rfl)).mono ?_
  rintro e w8 ⟨rfl, B8⟩
  rw [p1]
  have HB8 : Hid (Below w.heap.size w w8) := (lit_below _ _ _ HB7.out).trans (B8.mono (lit_below _ _ _ HB7.out).size)
  clear B8 HB7
  go_wp2_with fail
  refine (wrong_num _ 1 1 (lf [128]) (lf8 _ (by decide)) (by decide) _ _ (lit_row w8 [128] _ rfl)).mono ?_
  rintro e w9 ⟨rfl, B9⟩
  rw [p2]
  have HB9 : Hid (Below w.heap.size w w9) := (lit_below _ _ _ HB8.out).trans (B9.mono (lit_below _ _ _ HB8.out).size)
  clear B9 HB8
  go_wp2_with fail
  refine (wrong_text _ 3 3 (lf [4, 97, 98]) (lf8 _ (by decide)) (by decide) 1 _ (lit_row w9 [4, 97, 98] _ rfl)).mono ?_
  rintro e w10 ⟨rfl, B10⟩
  rw [p3]
  have HB10 : Hid (Below w.heap.size w w10) := (lit_below _ _ _ HB9.out).trans (B10.mono (lit_below _ _ _ HB9.out).size)
  clear B10 HB9
  go_wp2_with fail
  go_ret
  exact ⟨rfl, HB10.out⟩
end Go.Proofs.Ytihghccjcicbeaa
