/-
  MATRIXINVERSE, walked.
-/
import Derived.Test.YtdinhkcdllmmkaaMRuns
import Derived.Test.YtdinhkcdllmmkaaWithinLo
namespace Go.Proofs.Ytdinhkcdllmmkaa
open Go.RowKit

theorem MatF.dr {w : World} {a : Option Addr} {A : Nat → Nat → Nat} {m n : Nat} (h : MatF w a A m n) (k : Nat) : MatF (w.drewN k) a A m n := h
theorem sqA_B8 {f : Nat → Nat} (h : ∀ i, f i < 256) (l n : Nat) : Gf.B8 (sqA f l n) := by
  intro i j; unfold sqA; split
  · exact h _
  · decide

set_option maxHeartbeats 4000000 in
theorem minv_any (a0 : Option Addr) (len0 cap0 : Nat) (f : Nat → Nat) (a1 : Int) (w : World) (hf : ∀ i, f i < 256) (hl : len0 ≤ 140737488351232) (ra : RowF w a0 f len0) :
    Calls Try.prog 5 #[.slice a0 len0 cap0, .int .i64 a1] w fun e w' => e = .returned (.bool true) ∧ Below w.heap.size w w' := by
  have hz := zero25
  go_enter Try.func5, Try.ntmps5
  go_wp2_with fail
  refine (within_lc a1 1 7 1 7 rfl rfl (by decide) (by decide) w).mono ?_
  rintro e w1 ⟨⟨n, hn1, hn7, rfl⟩, hw⟩
  obtain rfl := hw.symm
  clear hw
  go_wp2_with fail
  refine (make_is w).mono ?_
  rintro e w1 ⟨T, hT, rfl, hb⟩
  have ht := hT.size
  have hst := store_tab hT w1
  go_wp2_with fail
  obtain ⟨b, W, eb, eW, hTab, hb1, hs, hB⟩ := tab_world hT hb
  rw [← eb, ← eW]
  clear hst ht hz eb eW hb hT hb1 hs
  have hM := sqA_B8 hf len0 n
  refine (square_any a0 len0 cap0 n f hl hn1 (by omega) W (ra.below hB)).mono ?_
  rintro e w2 ⟨g, cg, rfl, F2, _, L2⟩
  have T2 := hTab.up L2
  have B2 : Hid (Below w.heap.size w w2) := hB.trans (L2.mono hB.size)
  obtain ⟨M, eM⟩ : ∃ M, M = sqA f len0 n := ⟨_, rfl⟩
  rw [← eM] at F2 hM
  clear eM L2 hTab hB ra hf hl
  go_wp2_with fail
  refine (invert_any _ b n cg M hM hn1 (by omega) w2 F2 T2).mono ?_
  rintro e w3 ⟨L3, hinv⟩
  have T3 := T2.up L3
  have B3 : Hid (Below w.heap.size w w3) := B2.out.trans (L3.mono B2.out.size)
  have F3 := F2.below L3
  clear L3 T2 B2 F2
  rcases hinv with ⟨g3, P3, V, rfl, G3, bV, q1, q2, _⟩ | ⟨rfl, no⟩
  · have FV := G3.matF
    clear G3
    go_wp2_with fail
    refine (rank_any _ b n n cg M hM hn1 (by omega) hn1 (by omega) w3 F3 T3).mono ?_
    rintro e w4 ⟨r, rfl, hr, _, L4⟩
    have hrn : r = n := Gf.rank_unique hM hr (Gf.rank_of_inv hM bV q1)
    subst hrn
    have T4 := T3.up L4
    have B4 : Hid (Below w.heap.size w w4) := B3.out.trans (L4.mono B3.out.size)
    have F4 := F3.below L4
    have V4 := FV.below L4
    clear L4 T3 B3 F3 FV hr
    have ee : ((r : Int) == (r : Int)) = true := by simp
    go_wp2_with fail
    refine (times_any _ _ b r r r cg r M V hM bV hn1 (by omega) hn1 (by omega) hn1 (by omega) w4 F4 V4 T4).mono ?_
    rintro e w5 ⟨g5, P5, rfl, G5, L5⟩
    have T5 := T4.up L5
    have B5 : Hid (Below w.heap.size w w5) := B4.out.trans (L5.mono B4.out.size)
    have F5 := F4.below L5
    have V5 := V4.below L5
    have X5 := G5.matF
    clear L5 T4 B4 F4 V4 G5
    go_wp2_with fail
    refine (times_any _ _ b r r r r cg V M bV hM hn1 (by omega) hn1 (by omega) hn1 (by omega) w5 V5 F5 T5).mono ?_
    rintro e w6 ⟨g6, P6, rfl, G6, L6⟩
    have T6 := T5.up L6
    have B6 : Hid (Below w.heap.size w w6) := B5.out.trans (L6.mono B5.out.size)
    have F6 := F5.below L6
    have V6 := V5.below L6
    have X6 := X5.below L6
    have Y6 := G6.matF
    clear L6 T5 B5 F5 V5 X5 G6
    go_wp2_with fail
    refine (invert_any _ b r r V bV hn1 (by omega) w6 V6 T6).mono ?_
    rintro e w7 ⟨L7, hinv⟩
    have B7 : Hid (Below w.heap.size w w7) := B6.out.trans (L7.mono B6.out.size)
    have F7 := F6.below L7
    have X7 := X6.below L7
    have Y7 := Y6.below L7
    clear L7 T6 B6 F6 V6 X6 Y6
    rcases hinv with ⟨g7, P7, U, rfl, G7, bU, u1, u2, _⟩ | ⟨_, no⟩
    · have hUM : Hid (Gf.EqN r U M) := Gf.inv_unique bU bV hM u1 q1
      have U7 := G7.matF
      have HQ1 : Hid (Gf.EqN r (Gf.mm r V M) Gf.idm) := q1
      have HQ2 : Hid (Gf.EqN r (Gf.mm r M V) Gf.idm) := q2
      clear G7 u1 u2 q1 q2
      go_wp2_with fail
      refine (ident_any r _ rfl hn1 (by omega) w7).mono ?_
      rintro e w8 ⟨g8, P8, rfl, G8, L8⟩
      have B8 : Hid (Below w.heap.size w w8) := B7.out.trans (L8.mono B7.out.size)
      have F8 := F7.below L8
      have X8 := X7.below L8
      have Y8 := Y7.below L8
      have U8 := U7.below L8
      have I8 := G8.matF
      clear L8 B7 F7 X7 Y7 U7 G8
      go_wp2_with fail
      refine (same2_any _ _ r r r r _ _ (by omega) (by omega) HQ2.out w8 X8 I8).mono ?_
      rintro e w9 ⟨rfl, d9, rfl⟩
      go_wp2_with fail
      refine (ident_any r _ rfl hn1 (by omega) _).mono ?_
      rintro e w10 ⟨g10, P10, rfl, G10, L10⟩
      have B10 : Hid (Below w.heap.size w w10) := (below_drewN B8.out d9).trans (L10.mono B8.out.size)
      have F10 := (F8.dr d9).below L10
      have Y10 := (Y8.dr d9).below L10
      have U10 := (U8.dr d9).below L10
      have I10 := G10.matF
      clear L10 B8 F8 X8 Y8 U8 G10 I8
      go_wp2_with fail
      refine (same2_any _ _ r r r r _ _ (by omega) (by omega) HQ1.out w10 Y10 I10).mono ?_
      rintro e w11 ⟨rfl, d11, rfl⟩
      go_wp2_with fail
      refine (same2_any _ _ r r r cg _ _ (by omega) (by omega) hUM.out (w10.drewN d11) (U10.dr d11) (F10.dr d11)).mono ?_
      rintro e w12 ⟨rfl, d12, rfl⟩
      go_wp2_with fail
      refine (mruns_any _).mono ?_
      rintro e w13 ⟨rfl, L13⟩
      have B13 : Hid (Below w.heap.size w w13) := (below_drewN B10.out (d11 + d12)).trans (L13.mono B10.out.size)
      clear L13 B10 F10 Y10 U10 I10
      go_wp2_with fail
      go_ret
      exact ⟨rfl, B13.out⟩
    · exact absurd (Gf.inj_of_left hM bV q2) no
  · go_wp2_with fail
    refine (rank_any _ b n n cg M hM hn1 (by omega) hn1 (by omega) w3 F3 T3).mono ?_
    rintro e w4 ⟨r, rfl, hr, _, L4⟩
    have hrn : r < n := Gf.rank_of_ker hM hr no
    have B4 : Hid (Below w.heap.size w w4) := B3.out.trans (L4.mono B3.out.size)
    clear L4 T3 B3 F3 hr
    have ee : ((r : Int) == (n : Int)) = false := by simp; omega
    go_wp2_with fail
    refine (mruns_any _).mono ?_
    rintro e w5 ⟨rfl, L5⟩
    have B5 : Hid (Below w.heap.size w w5) := B4.out.trans (L5.mono B4.out.size)
    clear L5 B4
    go_wp2_with fail
    go_ret
    exact ⟨rfl, B5.out⟩
end Go.Proofs.Ytdinhkcdllmmkaa
