/-
  MATRIXTIMES, walked.
-/
import Derived.Test.YtdinhkcdllmmkaaMInv
namespace Go.Proofs.Ytdinhkcdllmmkaa
open Go.RowKit

set_option maxHeartbeats 4000000 in
theorem mtimes_any (a0 a1 a2 : Option Addr) (len0 cap0 len1 cap1 len2 cap2 : Nat) (f0 f1 f2 : Nat → Nat) (a3 : Int) (w : World) (hf0 : ∀ i, f0 i < 256) (hf1 : ∀ i, f1 i < 256) (hf2 : ∀ i, f2 i < 256)
    (hl0 : len0 ≤ 140737488351232) (hl1 : len1 ≤ 140737488351232) (hl2 : len2 ≤ 140737488351232) (r0 : RowF w a0 f0 len0) (r1 : RowF w a1 f1 len1) (r2 : RowF w a2 f2 len2) :
    Calls Try.prog 7 #[.slice a0 len0 cap0, .slice a1 len1 cap1, .slice a2 len2 cap2, .int .i64 a3] w fun e w' => e = .returned (.bool true) ∧ Below w.heap.size w w' := by
  have hz := zero25
  go_enter Try.func7, Try.ntmps7
  go_wp2_with fail
  refine (within_lc a3 1 6 1 6 rfl rfl (by decide) (by decide) w).mono ?_
  rintro e w1 ⟨⟨n, hn1, hn6, rfl⟩, hw⟩
  obtain rfl := hw.symm
  clear hw
  go_wp2_with fail
  refine (make_is w).mono ?_
  rintro e w1 ⟨T, hT, rfl, hb⟩
  have ht := hT.size
  have hst := store_tab hT w1
  go_wp2_with fail
  obtain ⟨b, W, eb, eW, hTab, hb1, hs, hB⟩ := tab_world hT hb
  rw [← eb, ← eW]
  clear hst ht hz eb eW hb hT hb1 hs
  have hX := sqA_B8 hf0 len0 n
  have hY := sqA_B8 hf1 len1 n
  have hZ := sqA_B8 hf2 len2 n
  refine (square_any a0 len0 cap0 n f0 hl0 hn1 (by omega) W (r0.below hB)).mono ?_
  rintro e w2 ⟨gx, cx, rfl, X2, _, L2⟩
  have T2 := hTab.up L2
  have B2 : Hid (Below w.heap.size w w2) := hB.trans (L2.mono hB.size)
  clear L2 hTab hB r0
  go_wp2_with fail
  refine (square_any a1 len1 cap1 n f1 hl1 hn1 (by omega) w2 (r1.below B2.out)).mono ?_
  rintro e w3 ⟨gy, cy, rfl, Y3, _, L3⟩
  have T3 := T2.up L3
  have B3 : Hid (Below w.heap.size w w3) := B2.out.trans (L3.mono B2.out.size)
  have X3 := X2.below L3
  clear L3 T2 B2 X2 r1
  go_wp2_with fail
  refine (square_any a2 len2 cap2 n f2 hl2 hn1 (by omega) w3 (r2.below B3.out)).mono ?_
  rintro e w4 ⟨gz, cz, rfl, Z4, _, L4⟩
  have T4 := T3.up L4
  have B4 : Hid (Below w.heap.size w w4) := B3.out.trans (L4.mono B3.out.size)
  have X4 := X3.below L4
  have Y4 := Y3.below L4
  clear L4 T3 B3 X3 Y3 r2
  obtain ⟨X, eX⟩ : ∃ M, M = sqA f0 len0 n := ⟨_, rfl⟩
  obtain ⟨Y, eY⟩ : ∃ M, M = sqA f1 len1 n := ⟨_, rfl⟩
  obtain ⟨Z, eZ⟩ : ∃ M, M = sqA f2 len2 n := ⟨_, rfl⟩
  rw [← eX] at X4 hX
  rw [← eY] at Y4 hY
  rw [← eZ] at Z4 hZ
  clear eX eY eZ hf0 hf1 hf2 hl0 hl1 hl2
  have hn12 : n ≤ 12 := by omega
  go_wp2_with fail
  refine (times_any _ _ b n n n cx cy X Y hX hY hn1 hn12 hn1 hn12 hn1 hn12 w4 X4 Y4 T4).mono ?_
  rintro e w5 ⟨g5, P5, rfl, G5, L5⟩
  have T5 := T4.up L5
  have B5 : Hid (Below w.heap.size w w5) := B4.out.trans (L5.mono B4.out.size)
  have X5 := X4.below L5
  have Y5 := Y4.below L5
  have Z5 := Z4.below L5
  have XY5 := G5.matF
  clear L5 T4 B4 X4 Y4 Z4 G5
  go_wp2_with fail
  refine (times_any _ _ b n n n cy cz Y Z hY hZ hn1 hn12 hn1 hn12 hn1 hn12 w5 Y5 Z5 T5).mono ?_
  rintro e w6 ⟨g6, P6, rfl, G6, L6⟩
  have T6 := T5.up L6
  have B6 : Hid (Below w.heap.size w w6) := B5.out.trans (L6.mono B5.out.size)
  have X6 := X5.below L6
  have Y6 := Y5.below L6
  have Z6 := Z5.below L6
  have XY6 := XY5.below L6
  have YZ6 := G6.matF
  clear L6 T5 B5 X5 Y5 Z5 XY5 G6
  go_wp2_with fail
  refine (times_any _ _ b n n n n cz (Gf.mm n X Y) Z (Gf.mm_B8 n X Y) hZ hn1 hn12 hn1 hn12 hn1 hn12 w6 XY6 Z6 T6).mono ?_
  rintro e w7 ⟨g7, P7, rfl, G7, L7⟩
  have T7 := T6.up L7
  have B7 : Hid (Below w.heap.size w w7) := B6.out.trans (L7.mono B6.out.size)
  have X7 := X6.below L7
  have Y7 := Y6.below L7
  have XY7 := XY6.below L7
  have YZ7 := YZ6.below L7
  have LL7 := G7.matF
  clear L7 T6 B6 X6 Y6 Z6 XY6 YZ6 G7
  go_wp2_with fail
  refine (times_any _ _ b n n n cx n X (Gf.mm n Y Z) hX (Gf.mm_B8 n Y Z) hn1 hn12 hn1 hn12 hn1 hn12 w7 X7 YZ7 T7).mono ?_
  rintro e w8 ⟨g8, P8, rfl, G8, L8⟩
  have T8 := T7.up L8
  have B8 : Hid (Below w.heap.size w w8) := B7.out.trans (L8.mono B7.out.size)
  have X8 := X7.below L8
  have Y8 := Y7.below L8
  have XY8 := XY7.below L8
  have LL8 := LL7.below L8
  have MM8 := G8.matF
  clear L8 T7 B7 X7 Y7 XY7 YZ7 LL7 G8
  go_wp2_with fail
  refine (ident_any n _ rfl hn1 (by omega) w8).mono ?_
  rintro e w9 ⟨g9, P9, rfl, G9, L9⟩
  have T9 := T8.up L9
  have B9 : Hid (Below w.heap.size w w9) := B8.out.trans (L9.mono B8.out.size)
  have X9 := X8.below L9
  have Y9 := Y8.below L9
  have XY9 := XY8.below L9
  have LL9 := LL8.below L9
  have MM9 := MM8.below L9
  have I9 := G9.matF
  clear L9 T8 B8 X8 Y8 XY8 LL8 MM8 G9
  go_wp2_with fail
  refine (times_any _ _ b n n n cx n X Gf.idm hX Gf.idm_B8 hn1 hn12 hn1 hn12 hn1 hn12 w9 X9 I9 T9).mono ?_
  rintro e w10 ⟨g10, P10, rfl, G10, L10⟩
  have T10 := T9.up L10
  have B10 : Hid (Below w.heap.size w w10) := B9.out.trans (L10.mono B9.out.size)
  have X10 := X9.below L10
  have Y10 := Y9.below L10
  have XY10 := XY9.below L10
  have LL10 := LL9.below L10
  have MM10 := MM9.below L10
  have E10 := G10.matF
  clear L10 T9 B9 X9 Y9 XY9 LL9 MM9 I9 G10
  go_wp2_with fail
  refine (rank_any _ b n n n (Gf.mm n X Y) (Gf.mm_B8 n X Y) hn1 hn12 hn1 hn12 w10 XY10 T10).mono ?_
  rintro e w11 ⟨k, rfl, hk, hkn, L11⟩
  have T11 := T10.up L11
  have B11 : Hid (Below w.heap.size w w11) := B10.out.trans (L11.mono B10.out.size)
  have X11 := X10.below L11
  have Y11 := Y10.below L11
  have LL11 := LL10.below L11
  have MM11 := MM10.below L11
  have E11 := E10.below L11
  clear L11 T10 B10 X10 Y10 XY10 LL10 MM10 E10
  go_wp2_with fail
  refine (same2_any _ _ n n n n _ _ (by omega) (by omega) (fun i _ j _ => Gf.mm_assoc hX hY hZ n n i j) w11 LL11 MM11).mono ?_
  rintro e w12 ⟨rfl, d12, rfl⟩
  go_wp2_with fail
  refine (same2_any _ _ n n n cx _ _ (by omega) (by omega) (fun i _ j hj => Gf.mm_id_right hX hj i) (w11.drewN d12) (E11.dr d12) (X11.dr d12)).mono ?_
  rintro e w13 ⟨rfl, d13, rfl⟩
  go_wp2_with fail
  refine (rank_any _ b n n cx X hX hn1 hn12 hn1 hn12 (w11.drewN (d12 + d13)) (X11.dr (d12 + d13)) (T11.drewN (d12 + d13))).mono ?_
  rintro e w14 ⟨rx, rfl, hrx, hxn, L14⟩
  have hkx : k ≤ rx := Gf.rank_mul_left hX hY (Gf.mm_B8 n X Y) (fun _ _ _ _ => rfl) hk hrx
  have T14 := (T11.drewN (d12 + d13)).up L14
  have B14 : Hid (Below w.heap.size w w14) := (below_drewN B11.out (d12 + d13)).trans (L14.mono B11.out.size)
  have Y14 := (Y11.dr (d12 + d13)).below L14
  clear L14 T11 B11 X11 Y11 LL11 MM11 E11 hrx
  have j1 : (k : Int) ≤ (rx : Int) := by omega
  go_wp2_with fail
  refine (rank_any _ b n n cy Y hY hn1 hn12 hn1 hn12 w14 Y14 T14).mono ?_
  rintro e w15 ⟨ry, rfl, hry, hyn, L15⟩
  have hky : k ≤ ry := Gf.rank_mul_right hX hY (Gf.mm_B8 n X Y) (fun _ _ _ _ => rfl) hk hry
  have B15 : Hid (Below w.heap.size w w15) := B14.out.trans (L15.mono B14.out.size)
  clear L15 B14 T14 Y14 hry hk
  have j2 : (k : Int) ≤ (ry : Int) := by omega
  go_wp2_with fail
  refine (mruns_any _).mono ?_
  rintro e w16 ⟨rfl, L16⟩
  have B16 : Hid (Below w.heap.size w w16) := B15.out.trans (L16.mono B15.out.size)
  clear L16 B15
  go_wp2_with fail
  go_ret
  exact ⟨rfl, B16.out⟩
end Go.Proofs.Ytdinhkcdllmmkaa
