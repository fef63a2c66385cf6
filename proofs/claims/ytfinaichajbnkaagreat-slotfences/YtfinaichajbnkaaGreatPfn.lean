/-
  SlotFences.
-/
import Derived.Test.YtfinaichajbnkaaGreatPls
import Derived.Test.YtfinaichajbnkaaGreatSpf
import Derived.Test.YtfinaichajbnkaaGreatPop
import Derived.Test.YtfinaichajbnkaaGreatPrn
namespace Go.Proofs.YtfinaichajbnkaaGreat
open Go.RowKit
open Wi (F)

set_option maxRecDepth 100000 in
theorem light_any (f : F) (w : World) : Calls Tryz.prog 16 #[f.v] w fun e w' => ∃ b, e = .returned (.bool b) ∧ Below w.heap.size w w' := by
  obtain ⟨f0, f1, f2, f3, f4, f5, f6, f7, f8⟩ := f
  show Calls _ _ #[.agg #[.int .i64 f0, .int .i64 f1, .int .i64 f2, .int .i64 f3, .int .i64 f4, .int .i64 f5, .string f6, .int .i64 f7, .string f8]] _ _
  go_enter Tryz.func16, Tryz.ntmps16
  go_wp2_with fail
  go_ret
  exact ⟨_, rfl, bel_alloc _ _⟩
set_option maxRecDepth 100000 in
set_option maxHeartbeats 1000000 in
theorem fences_walk (a0 : Option Addr) (len0 cap0 : Nat) (z0 : Nat → Bool × F) (a1 : Option Addr) (len1 cap1 : Nat) (z1 : Nat → Int) (w : World) (_ : len0 ≤ 9223372036854775807) (_ : len1 ≤ 9223372036854775807) (h0 : AskF w a0 z0 len0) (h1 : IntsF w a1 z1 len1) :
    Calls Tryz.prog 6 #[.slice a0 len0 cap0, .slice a1 len1 cap1] w fun e w' => e = .returned (.bool true) ∧ Below w.heap.size w w' := by
  have HA := hid h0
  have HI := hid h1
  clear h0 h1
  go_enter Tryz.func6, Tryz.ntmps6
  go_wp2_with fail
  refine (lw_new _).mono ?_
  rintro e w0 ⟨X, o0, n, rfl, _, l0⟩
  have L0 := hid l0
  have ok : OkSp ⟨St.new 4 1024 n, []⟩ := by
    obtain ⟨C, D, d, I⟩ := l0.I
    exact I.st.ok
  obtain ⟨s1, s2, s3, s4, s5, t1, t2, t3, e3, t4, e4, t5, t6, t7, e5, e6, n1, n2, n3, n4, n5⟩ := fences_plain ok
  have T1 := hid t1
  have T2 := hid t2
  have T3 := hid t3
  have T4 := hid t4
  have T5 := hid t5
  have T6 := hid t6
  have T7 := hid t7
  have E3 := hid e3
  have E4 := hid e4
  have E5 := hid (And.intro e5 e6)
  clear l0 ok t1 t2 t3 t4 t5 t6 t7 e3 e4 e5 e6
  go_wp2_with fail
  refine (ask5_any 1 ⟨#[]⟩ ⟨#[]⟩ 0 _).mono ?_
  rintro e w1 ⟨rfl, b1⟩
  have L1 := hid (L0.out.below b1)
  clear b1
  have TK : Hid (Calls Tryz.prog 9 #[.pointer (some ⟨X, 0, none⟩), .agg #[.int .i64 5, .int .i64 1, .int .i64 3, .int .i64 1, .int .i64 0, .int .i64 0, .string ⟨#[]⟩, .int .i64 0, .string ⟨#[]⟩]] w1 fun e w' => e = .returned (.tuple #[.agg #[.int .i64 6, .int .i64 1, .int .i64 3, .int .i64 1, .int .i64 0, .int .i64 0, .string ⟨#[]⟩, .int .i64 0, .string ⟨#[]⟩], .bool true]) ∧ ∃ o', Lw w w' o' X s1 ∧ Kept w1 o0 w' o') := hid (lw_take L1.out (Nat.zero_le _) (⟨5, 1, 3, 1, 0, 0, ⟨#[]⟩, 0, ⟨#[]⟩⟩ : F) T1.out rfl rfl)
  go_wp2_with fail
  refine TK.out.mono ?_
  rintro e w2 ⟨rfl, o2, l2, k2⟩
  have L2 := hid l2
  clear TK k2 l2
  go_wp2_with fail
  refine (askn_any 1 50 ⟨#[107]⟩ ⟨#[118]⟩ 1 rfl _).mono ?_
  rintro e w3 ⟨rfl, b3⟩
  have L3 := hid (L2.out.below b3)
  clear b3
  have TK : Hid (Calls Tryz.prog 9 #[.pointer (some ⟨X, 0, none⟩), .agg #[.int .i64 1, .int .i64 1, .int .i64 3, .int .i64 50, .int .i64 0, .int .i64 1, .string ⟨#[107]⟩, .int .i64 1, .string ⟨#[118]⟩]] w3 fun e w' => e = .returned (.tuple #[.agg #[.int .i64 6, .int .i64 1, .int .i64 3, .int .i64 50, .int .i64 0, .int .i64 1, .string ⟨#[107]⟩, .int .i64 1, .string ⟨#[]⟩], .bool true]) ∧ ∃ o', Lw w w' o' X s2 ∧ Kept w3 o2 w' o') := hid (lw_take L3.out n1 (⟨1, 1, 3, 50, 0, 1, ⟨#[107]⟩, 1, ⟨#[118]⟩⟩ : F) T2.out rfl rfl)
  go_wp2_with fail
  refine TK.out.mono ?_
  rintro e w4 ⟨rfl, o4, l4, k4⟩
  have L4 := hid l4
  clear TK k4 l4
  go_wp2_with fail
  refine (askn_any 2 60 ⟨#[107]⟩ ⟨#[]⟩ 0 rfl _).mono ?_
  rintro e w5 ⟨rfl, b5⟩
  have L5 := hid (L4.out.below b5)
  clear b5
  go_wp2_with fail
  obtain ⟨V6, hV6⟩ : ∃ V, V = w5.alloc (.cells #[.int .i64 2, .int .i64 1, .int .i64 3, .int .i64 60, .int .i64 60, .int .i64 1, .string ⟨#[107]⟩, .int .i64 0, .string ⟨#[]⟩] 27) := ⟨_, rfl⟩
  obtain ⟨o6, ho6⟩ : ∃ o, o = nwl o4 w5.heap.size := ⟨_, rfl⟩
  obtain ⟨B6, hB6⟩ : ∃ B, B = w5.heap.size := ⟨_, rfl⟩
  have q6 := L5.out.box (⟨2, 1, 3, 60, 60, 1, ⟨#[107]⟩, 0, ⟨#[]⟩⟩ : F)
  rw [show (⟨2, 1, 3, 60, 60, 1, ⟨#[107]⟩, 0, ⟨#[]⟩⟩ : F).cs.toArray = #[.int .i64 2, .int .i64 1, .int .i64 3, .int .i64 60, .int .i64 60, .int .i64 1, .string ⟨#[107]⟩, .int .i64 0, .string ⟨#[]⟩] from rfl, ← hV6, ← ho6, ← hB6] at q6
  rw [← hV6, ← hB6]
  have L6 := hid q6.1
  have Hh_6 := hid q6.2.1.k
  clear q6 hV6 ho6 hB6 
  have TK : Hid (Calls Tryz.prog 9 #[.pointer (some ⟨X, 0, none⟩), .agg #[.int .i64 2, .int .i64 1, .int .i64 3, .int .i64 60, .int .i64 60, .int .i64 1, .string ⟨#[107]⟩, .int .i64 0, .string ⟨#[]⟩]] V6 fun e w' => e = .returned (.tuple #[.agg #[.int .i64 6, .int .i64 1, .int .i64 3, .int .i64 60, .int .i64 0, .int .i64 1, .string ⟨#[107]⟩, .int .i64 1, .string ⟨#[118]⟩], .bool true]) ∧ ∃ o', Lw w w' o' X s3 ∧ Kept V6 o6 w' o') := hid (lw_take L6.out n2 (⟨2, 1, 3, 60, 60, 1, ⟨#[107]⟩, 0, ⟨#[]⟩⟩ : F) T3.out rfl rfl)
  go_wp2_with fail
  refine TK.out.mono ?_
  rintro e w7 ⟨rfl, o7, l7, k7⟩
  have L7 := hid l7
  clear TK k7 l7
  go_wp2_with fail
  clear T1 T2 T3 L0 L1 L2 L3 L4 L5 L6 Hh_6
  go_loopw [8] (fun i wr => ∃ (j : Nat) (o : Nat → Nat × Nat), i = .int .i64 (j : Int) ∧ j ≤ 40 ∧ Hid (Lw w wr o X s3)) (fun i _ => 40 - (intOf i).toNat)
  case atStart => exact ⟨0, o7, rfl, by omega, L7⟩
  case round =>
    clear L7
    obtain ⟨j, o, rfl, hj, LR⟩ := hrel
    by_cases hlt : j < len0 ∧ j < 40
    · obtain ⟨hl1, hl2⟩ := hlt
      obtain ⟨⟨z, f0, f1, f2, f3, f4, f5, f6, f7, f8⟩, hq⟩ : ∃ q, q = z0 j := ⟨_, rfl⟩
      rcases HA.out with h0 | ⟨p, off, rfl, hcl⟩
      · omega
      have c0 := (hcl j hl1).2
      rw [← hq] at c0
      have g0 := cell_b (c0 0 _ rfl) LR.out.fin
      have g1 := cell_b (c0 1 _ rfl) LR.out.fin
      have g2 := cell_b (c0 2 _ rfl) LR.out.fin
      have g3 := cell_b (c0 3 _ rfl) LR.out.fin
      have g4 := cell_b (c0 4 _ rfl) LR.out.fin
      have g5 := cell_b (c0 5 _ rfl) LR.out.fin
      have g6 := cell_b (c0 6 _ rfl) LR.out.fin
      have g7 := cell_b (c0 7 _ rfl) LR.out.fin
      have g8 := cell_b (c0 8 _ rfl) LR.out.fin
      clear c0 hcl hq
      have hi1 : (j : Int) < (len0 : Int) := by omega
      have hi2 : (j : Int) < 40 := by omega
      go_wp2_with fail
      refine (light_any ⟨f0, f1, f2, f3, f4, f5, f6, f7, f8⟩ _).mono ?_
      rintro e y ⟨bb, rfl, by_⟩
      obtain ⟨B, hB⟩ : ∃ B, B = wr.heap.size := ⟨_, rfl⟩
      obtain ⟨o1, ho1⟩ : ∃ o1, o1 = nwl o wr.heap.size := ⟨_, rfl⟩
      have q := LR.out.box ⟨f0, f1, f2, f3, f4, f5, f6, f7, f8⟩
      rw [← ho1, ← hB] at q
      have hge : w.heap.size ≤ B := by rw [hB]; exact LR.out.ge
      have LY := hid (q.1.below by_)
      have KY := hid (q.2.1.below by_)
      rw [← hB]
      clear q by_ hB ho1 LR g0 g1 g2 g3 g4 g5 g6 g7 g8
      by_cases hb : bb = true
      · subst hb
        have x1 := KY.out.k.q 1 _ rfl
        have y1 := KY.out.z 1
        go_upto_region 15 with fail
        have ly := LY.out.set KY.out.k.lb hge 1 (.int .i64 1)
        have ky := KY.out.set1 1
        obtain ⟨y0, hy0⟩ : ∃ y0, y0 = y.setCell ⟨B, 1, none⟩ (.int .i64 1) := ⟨_, rfl⟩
        rw [← hy0] at ly ky ⊢
        clear LY KY x1 y1 hy0
        have LY := hid ly
        have KY := hid ky
        clear ly ky
        have r3 : (j : Int).tmod 3 = 0 ∨ (j : Int).tmod 3 = 1 ∨ (j : Int).tmod 3 = 2 := by rw [Int.tmod_eq_emod_of_nonneg (by omega)]; omega
        rcases r3 with r3 | r3 | r3
        · have x0 := KY.out.k.q 0 _ rfl
          have x1 := KY.out.k.q 1 _ rfl
          have x2 := KY.out.k.q 2 _ rfl
          have x3 := KY.out.k.q 3 _ rfl
          have x4 := KY.out.k.q 4 _ rfl
          have x5 := KY.out.k.q 5 _ rfl
          have x6 := KY.out.k.q 6 _ rfl
          have x7 := KY.out.k.q 7 _ rfl
          have x8 := KY.out.k.q 8 _ rfl
          have y1 := KY.out.z 1
          go_wp2_with fail
          have ly := LY.out.set KY.out.k.lb hge 1 (.int .i64 2)
          have ky := KY.out.set1 2
          obtain ⟨y2, hy0⟩ : ∃ yy, yy = y0.setCell ⟨B, 1, none⟩ (.int .i64 2) := ⟨_, rfl⟩
          rw [← hy0] at ly ky ⊢
          replace LY := hid ly
          replace KY := hid ky
          clear ly ky hy0
          clear x0 x1 x2 x3 x4 x5 x6 x7 x8 y1
          have TK : Hid (Calls Tryz.prog 9 #[.pointer (some ⟨X, 0, none⟩), .agg #[.int .i64 f0, .int .i64 2, .int .i64 f2, .int .i64 f3, .int .i64 f4, .int .i64 f5, .string f6, .int .i64 f7, .string f8]] (y2) fun e w' => e = .returned (.tuple #[.agg #[.int .i64 0, .int .i64 0, .int .i64 0, .int .i64 0, .int .i64 0, .int .i64 0, .string ⟨#[]⟩, .int .i64 0, .string ⟨#[]⟩], .bool false]) ∧ ∃ o', Lw w w' o' X s3 ∧ Kept (y2) o1 w' o') := hid (lw_take LY.out n3 (⟨f0, 2, f2, f3, f4, f5, f6, f7, f8⟩ : F) (take_out (.inl (by rw [E3.out.1]; show (2 : Int) ≠ 1; omega))) rfl rfl)
          clear LY KY
          refine TK.out.mono ?_
          rintro e wt ⟨rfl, ot, lt, _⟩
          have LT := hid lt
          clear TK lt
          go_wp2_with fail
          exact ⟨⟨j + 1, ot, by go_num, by omega, LT.out.below (bel_alloc _ _)⟩, by simp [intOf]; omega⟩
        · have x2 := KY.out.k.q 2 _ rfl
          have y2 := KY.out.z 2
          go_upto_region 20 with fail
          have ly := LY.out.set KY.out.k.lb hge 2 (.int .i64 2)
          have ky := KY.out.set2 2
          obtain ⟨y3, hy0⟩ : ∃ yy, yy = y0.setCell ⟨B, 2, none⟩ (.int .i64 2) := ⟨_, rfl⟩
          rw [← hy0] at ly ky ⊢
          replace LY := hid ly
          replace KY := hid ky
          clear ly ky hy0
          clear x2 y2
          by_cases hk : j < len1 ∧ f0 ≠ 5
          · obtain ⟨hk1, hk2⟩ := hk
            rcases HI.out with h0 | ⟨p1, off1, rfl, hci⟩
            · omega
            have ci := cell_b (hci j hk1) LY.out.fin
            have x0 := KY.out.k.q 0 _ rfl
            have hj1 : (j : Int) < (len1 : Int) := by omega
            have hf0 : (f0 != 5) = true := by simp [hk2]
            go_wp2_with fail
            refine (within_any (z1 j) 0 9 (by omega) (by omega) (by omega) _).mono ?_
            rintro e yw ⟨rfl, rfl⟩
            obtain ⟨wv, hwv⟩ : ∃ wv, wi (z1 j) 0 9 = wv := ⟨_, rfl⟩
            have bd := wi_bd (z1 j) 0 9 (by omega)
            rw [hwv] at bd ⊢
            clear hwv ci hci x0
            have x0 := KY.out.k.q 0 _ rfl
            have x1 := KY.out.k.q 1 _ rfl
            have x2 := KY.out.k.q 2 _ rfl
            have x3 := KY.out.k.q 3 _ rfl
            have x4 := KY.out.k.q 4 _ rfl
            have x5 := KY.out.k.q 5 _ rfl
            have x6 := KY.out.k.q 6 _ rfl
            have x7 := KY.out.k.q 7 _ rfl
            have x8 := KY.out.k.q 8 _ rfl
            have y2 := KY.out.z 2
            go_wp2_with fail
            have ly := LY.out.set KY.out.k.lb hge 2 (.int .i64 (4 + wv))
            have ky := KY.out.set2 (4 + wv)
            obtain ⟨y4, hy0⟩ : ∃ yy, yy = y3.setCell ⟨B, 2, none⟩ (.int .i64 (4 + wv)) := ⟨_, rfl⟩
            rw [← hy0] at ly ky ⊢
            replace LY := hid ly
            replace KY := hid ky
            clear ly ky hy0
            clear x0 x1 x2 x3 x4 x5 x6 x7 x8 y2
            have TK : Hid (Calls Tryz.prog 9 #[.pointer (some ⟨X, 0, none⟩), .agg #[.int .i64 f0, .int .i64 1, .int .i64 (4 + wv), .int .i64 f3, .int .i64 f4, .int .i64 f5, .string f6, .int .i64 f7, .string f8]] (y4) fun e w' => e = .returned (.tuple #[.agg #[.int .i64 0, .int .i64 0, .int .i64 0, .int .i64 0, .int .i64 0, .int .i64 0, .string ⟨#[]⟩, .int .i64 0, .string ⟨#[]⟩], .bool false]) ∧ ∃ o', Lw w w' o' X s3 ∧ Kept (y4) o1 w' o') := hid (lw_take LY.out n3 (⟨f0, 1, (4 + wv), f3, f4, f5, f6, f7, f8⟩ : F) (take_out (.inr (.inr ⟨hk2, .inl (by rw [E3.out.2.1]; show 4 + wv ≠ 3; omega)⟩))) rfl rfl)
            clear LY KY
            refine TK.out.mono ?_
            rintro e wt ⟨rfl, ot, lt, _⟩
            have LT := hid lt
            clear TK lt
            go_wp2_with fail
            exact ⟨⟨j + 1, ot, by go_num, by omega, LT.out.below (bel_alloc _ _)⟩, by simp [intOf]; omega⟩
          · have hn : ¬ (j : Int) < (len1 : Int) ∨ (j : Int) < (len1 : Int) ∧ f0 = 5 := by
              rcases Nat.lt_or_ge j len1 with h | h
              · exact .inr ⟨by omega, Classical.byContradiction fun h2 => hk ⟨h, h2⟩⟩
              · exact .inl (by omega)
            have TK : Hid (Calls Tryz.prog 9 #[.pointer (some ⟨X, 0, none⟩), .agg #[.int .i64 f0, .int .i64 1, .int .i64 2, .int .i64 f3, .int .i64 f4, .int .i64 f5, .string f6, .int .i64 f7, .string f8]] y3 fun e w' => e = .returned (.tuple #[.agg #[.int .i64 0, .int .i64 0, .int .i64 0, .int .i64 0, .int .i64 0, .int .i64 0, .string ⟨#[]⟩, .int .i64 0, .string ⟨#[]⟩], .bool false]) ∧ ∃ o', Lw w w' o' X s3 ∧ Kept y3 o1 w' o') := hid (lw_take LY.out n3 (⟨f0, 1, 2, f3, f4, f5, f6, f7, f8⟩ : F) (take_out (by rw [E3.out.2.1]; by_cases h : f0 = 5; exact .inr (.inl ⟨h, by show (2 : Int) < 3; omega⟩); exact .inr (.inr ⟨h, .inl (by show (2 : Int) ≠ 3; omega)⟩))) rfl rfl)
            have x0 := KY.out.k.q 0 _ rfl
            have x1 := KY.out.k.q 1 _ rfl
            have x2 := KY.out.k.q 2 _ rfl
            have x3 := KY.out.k.q 3 _ rfl
            have x4 := KY.out.k.q 4 _ rfl
            have x5 := KY.out.k.q 5 _ rfl
            have x6 := KY.out.k.q 6 _ rfl
            have x7 := KY.out.k.q 7 _ rfl
            have x8 := KY.out.k.q 8 _ rfl
            clear LY KY
            rcases hn with hn | ⟨hn, rfl⟩
            · go_wp2_with fail
              refine TK.out.mono ?_
              rintro e wt ⟨rfl, ot, lt, _⟩
              have LT := hid lt
              clear TK lt
              go_wp2_with fail
              exact ⟨⟨j + 1, ot, by go_num, by omega, LT.out.below (bel_alloc _ _)⟩, by simp [intOf]; omega⟩
            · go_wp2_with fail
              refine TK.out.mono ?_
              rintro e wt ⟨rfl, ot, lt, _⟩
              have LT := hid lt
              clear TK lt
              go_wp2_with fail
              exact ⟨⟨j + 1, ot, by go_num, by omega, LT.out.below (bel_alloc _ _)⟩, by simp [intOf]; omega⟩
        · have x3 := KY.out.k.q 3 _ rfl
          go_wp2_with fail
          refine (within_any f3 0 59 (by omega) (by omega) (by omega) _).mono ?_
          rintro e yw ⟨rfl, rfl⟩
          obtain ⟨wv, hwv⟩ : ∃ wv, wi f3 0 59 = wv := ⟨_, rfl⟩
          have bd := wi_bd f3 0 59 (by omega)
          rw [hwv] at bd ⊢
          have x2 := KY.out.k.q 2 _ rfl
          have y2 := KY.out.z 2
          have y3 := KY.out.z 3
          clear hwv
          go_upto_region 24 with fail
          have ly := LY.out.set KY.out.k.lb hge 2 (.int .i64 3)
          have ky := KY.out.set2 3
          obtain ⟨y3, hy0⟩ : ∃ yy, yy = y0.setCell ⟨B, 2, none⟩ (.int .i64 3) := ⟨_, rfl⟩
          rw [← hy0] at ly ky ⊢
          replace LY := hid ly
          replace KY := hid ky
          clear ly ky hy0
          have ly := LY.out.set KY.out.k.lb hge 3 (.int .i64 wv)
          have ky := KY.out.set3 wv
          obtain ⟨y4, hy0⟩ : ∃ yy, yy = y3.setCell ⟨B, 3, none⟩ (.int .i64 wv) := ⟨_, rfl⟩
          rw [← hy0] at ly ky ⊢
          replace LY := hid ly
          replace KY := hid ky
          clear ly ky hy0
          clear x2 x3 y2 y3
          have x0 := KY.out.k.q 0 _ rfl
          have x1 := KY.out.k.q 1 _ rfl
          have x2 := KY.out.k.q 2 _ rfl
          have x3 := KY.out.k.q 3 _ rfl
          have x4 := KY.out.k.q 4 _ rfl
          have x5 := KY.out.k.q 5 _ rfl
          have x6 := KY.out.k.q 6 _ rfl
          have x7 := KY.out.k.q 7 _ rfl
          have x8 := KY.out.k.q 8 _ rfl
          by_cases hk : f0 = 5
          · subst hk
            have y2 := KY.out.z 2
            go_wp2_with fail
            have ly := LY.out.set KY.out.k.lb hge 2 (.int .i64 1)
            have ky := KY.out.set2 1
            obtain ⟨y5, hy0⟩ : ∃ yy, yy = y4.setCell ⟨B, 2, none⟩ (.int .i64 1) := ⟨_, rfl⟩
            rw [← hy0] at ly ky ⊢
            replace LY := hid ly
            replace KY := hid ky
            clear ly ky hy0
            clear x0 x1 x2 x3 x4 x5 x6 x7 x8 y2
            have TK : Hid (Calls Tryz.prog 9 #[.pointer (some ⟨X, 0, none⟩), .agg #[.int .i64 5, .int .i64 1, .int .i64 1, .int .i64 wv, .int .i64 f4, .int .i64 f5, .string f6, .int .i64 f7, .string f8]] (y5) fun e w' => e = .returned (.tuple #[.agg #[.int .i64 0, .int .i64 0, .int .i64 0, .int .i64 0, .int .i64 0, .int .i64 0, .string ⟨#[]⟩, .int .i64 0, .string ⟨#[]⟩], .bool false]) ∧ ∃ o', Lw w w' o' X s3 ∧ Kept (y5) o1 w' o') := hid (lw_take LY.out n3 (⟨5, 1, 1, wv, f4, f5, f6, f7, f8⟩ : F) (take_out (.inr (.inl ⟨rfl, by rw [E3.out.2.1]; show (1 : Int) < 3; omega⟩))) rfl rfl)
            clear LY KY
            refine TK.out.mono ?_
            rintro e wt ⟨rfl, ot, lt, _⟩
            have LT := hid lt
            clear TK lt
            go_wp2_with fail
            exact ⟨⟨j + 1, ot, by go_num, by omega, LT.out.below (bel_alloc _ _)⟩, by simp [intOf]; omega⟩
          · have hk2 : (f0 == 5) = false := by simp [hk]
            go_wp2_with fail
            clear x0 x1 x2 x3 x4 x5 x6 x7 x8
            have TK : Hid (Calls Tryz.prog 9 #[.pointer (some ⟨X, 0, none⟩), .agg #[.int .i64 f0, .int .i64 1, .int .i64 3, .int .i64 wv, .int .i64 f4, .int .i64 f5, .string f6, .int .i64 f7, .string f8]] (y4) fun e w' => e = .returned (.tuple #[.agg #[.int .i64 0, .int .i64 0, .int .i64 0, .int .i64 0, .int .i64 0, .int .i64 0, .string ⟨#[]⟩, .int .i64 0, .string ⟨#[]⟩], .bool false]) ∧ ∃ o', Lw w w' o' X s3 ∧ Kept (y4) o1 w' o') := hid (lw_take LY.out n3 (⟨f0, 1, 3, wv, f4, f5, f6, f7, f8⟩ : F) (take_out (.inr (.inr ⟨hk, .inr (by rw [E3.out.2.2]; show wv < 60; omega)⟩))) rfl rfl)
            clear LY KY
            refine TK.out.mono ?_
            rintro e wt ⟨rfl, ot, lt, _⟩
            have LT := hid lt
            clear TK lt
            go_wp2_with fail
            exact ⟨⟨j + 1, ot, by go_num, by omega, LT.out.below (bel_alloc _ _)⟩, by simp [intOf]; omega⟩
      · obtain rfl : bb = false := by simpa using hb
        go_wp2_with fail
        exact ⟨⟨j + 1, o1, by go_num, by omega, LY⟩, by simp [intOf]; omega⟩
    · have hn : ¬ (j : Int) < (len0 : Int) ∨ (j : Int) < (len0 : Int) ∧ ¬ (j : Int) < 40 := by
        rcases Nat.lt_or_ge j len0 with h | h
        · exact .inr ⟨by omega, by omega⟩
        · exact .inl (by omega)
      clear hlt HA
      rcases hn with hn | hn
      · go_wp2_with fail
        refine (askn_any 2 70 ⟨#[107]⟩ ⟨#[]⟩ 0 rfl _).mono ?_
        rintro e w21 ⟨rfl, b21⟩
        have L21 := hid (LR.out.below b21)
        clear b21
        have TK : Hid (Calls Tryz.prog 9 #[.pointer (some ⟨X, 0, none⟩), .agg #[.int .i64 2, .int .i64 1, .int .i64 3, .int .i64 70, .int .i64 0, .int .i64 1, .string ⟨#[107]⟩, .int .i64 0, .string ⟨#[]⟩]] w21 fun e w' => e = .returned (.tuple #[.agg #[.int .i64 6, .int .i64 1, .int .i64 3, .int .i64 70, .int .i64 0, .int .i64 1, .string ⟨#[107]⟩, .int .i64 1, .string ⟨#[118]⟩], .bool true]) ∧ ∃ o', Lw w w' o' X s4 ∧ Kept w21 o w' o') := hid (lw_take L21.out n3 (⟨2, 1, 3, 70, 0, 1, ⟨#[107]⟩, 0, ⟨#[]⟩⟩ : F) T4.out rfl rfl)
        go_wp2_with fail
        refine TK.out.mono ?_
        rintro e w22 ⟨rfl, o22, l22, k22⟩
        have L22 := hid l22
        clear TK k22 l22
        go_wp2_with fail
        obtain ⟨V23, hV23⟩ : ∃ V, V = w22.alloc (.cells #[.int .i64 6, .int .i64 1, .int .i64 3, .int .i64 70, .int .i64 0, .int .i64 1, .string ⟨#[107]⟩, .int .i64 1, .string ⟨#[118]⟩] 27) := ⟨_, rfl⟩
        obtain ⟨o23, ho23⟩ : ∃ o, o = nwl o22 w22.heap.size := ⟨_, rfl⟩
        obtain ⟨B23, hB23⟩ : ∃ B, B = w22.heap.size := ⟨_, rfl⟩
        have q23 := L22.out.box (⟨6, 1, 3, 70, 0, 1, ⟨#[107]⟩, 1, ⟨#[118]⟩⟩ : F)
        rw [show (⟨6, 1, 3, 70, 0, 1, ⟨#[107]⟩, 1, ⟨#[118]⟩⟩ : F).cs.toArray = #[.int .i64 6, .int .i64 1, .int .i64 3, .int .i64 70, .int .i64 0, .int .i64 1, .string ⟨#[107]⟩, .int .i64 1, .string ⟨#[118]⟩] from rfl, ← hV23, ← ho23, ← hB23] at q23
        rw [← hV23, ← hB23]
        have L23 := hid q23.1
        have Aa_23 := hid q23.2.1.k
        clear q23 hV23 ho23 hB23 
        refine (plen_any X s4 _ _ L23.out.I).mono ?_
        rintro e wl ⟨rfl, rfl⟩
        rw [E4.out]
        go_wp2_with fail
        refine (lw_wipe L23.out).mono ?_
        rintro e w24 ⟨rfl, o24, l24, k24⟩
        have L24 := hid l24
        clear k24 l24
        go_wp2_with fail
        refine (askn_any 2 71 ⟨#[107]⟩ ⟨#[]⟩ 0 rfl _).mono ?_
        rintro e w25 ⟨rfl, b25⟩
        have L25 := hid (L24.out.below b25)
        clear b25
        have TK : Hid (Calls Tryz.prog 9 #[.pointer (some ⟨X, 0, none⟩), .agg #[.int .i64 2, .int .i64 1, .int .i64 3, .int .i64 71, .int .i64 0, .int .i64 1, .string ⟨#[107]⟩, .int .i64 0, .string ⟨#[]⟩]] w25 fun e w' => e = .returned (.tuple #[.agg #[.int .i64 0, .int .i64 0, .int .i64 0, .int .i64 0, .int .i64 0, .int .i64 0, .string ⟨#[]⟩, .int .i64 0, .string ⟨#[]⟩], .bool false]) ∧ ∃ o', Lw w w' o' X s4.wipe ∧ Kept w25 o24 w' o') := hid (lw_take L25.out (Nat.zero_le _) (⟨2, 1, 3, 71, 0, 1, ⟨#[107]⟩, 0, ⟨#[]⟩⟩ : F) T5.out rfl rfl)
        go_wp2_with fail
        refine TK.out.mono ?_
        rintro e w26 ⟨rfl, o26, l26, k26⟩
        have L26 := hid l26
        clear TK k26 l26
        go_wp2_with fail
        obtain ⟨V27, hV27⟩ : ∃ V, V = w26.alloc (.cells #[.int .i64 0, .int .i64 0, .int .i64 0, .int .i64 0, .int .i64 0, .int .i64 0, .string ⟨#[]⟩, .int .i64 0, .string ⟨#[]⟩] 27) := ⟨_, rfl⟩
        obtain ⟨o27, ho27⟩ : ∃ o, o = nwl o26 w26.heap.size := ⟨_, rfl⟩
        obtain ⟨B27, hB27⟩ : ∃ B, B = w26.heap.size := ⟨_, rfl⟩
        have q27 := L26.out.box (⟨0, 0, 0, 0, 0, 0, ⟨#[]⟩, 0, ⟨#[]⟩⟩ : F)
        rw [show (⟨0, 0, 0, 0, 0, 0, ⟨#[]⟩, 0, ⟨#[]⟩⟩ : F).cs.toArray = #[.int .i64 0, .int .i64 0, .int .i64 0, .int .i64 0, .int .i64 0, .int .i64 0, .string ⟨#[]⟩, .int .i64 0, .string ⟨#[]⟩] from rfl, ← hV27, ← ho27, ← hB27] at q27
        rw [← hV27, ← hB27]
        have L27 := hid q27.1
        have Zz_27 := hid q27.2.1.k
        clear q27 hV27 ho27 hB27 
        go_wp2_with fail
        refine (ask5_any 1 ⟨#[]⟩ ⟨#[]⟩ 0 _).mono ?_
        rintro e w28 ⟨rfl, b28⟩
        have L28 := hid (L27.out.below b28)
        clear b28
        go_wp2_with fail
        obtain ⟨V29, hV29⟩ : ∃ V, V = w28.alloc (.cells #[.int .i64 5, .int .i64 1, .int .i64 4, .int .i64 1, .int .i64 0, .int .i64 0, .string ⟨#[]⟩, .int .i64 0, .string ⟨#[]⟩] 27) := ⟨_, rfl⟩
        obtain ⟨o29, ho29⟩ : ∃ o, o = nwl o27 w28.heap.size := ⟨_, rfl⟩
        obtain ⟨B29, hB29⟩ : ∃ B, B = w28.heap.size := ⟨_, rfl⟩
        have q29 := L28.out.box (⟨5, 1, 4, 1, 0, 0, ⟨#[]⟩, 0, ⟨#[]⟩⟩ : F)
        rw [show (⟨5, 1, 4, 1, 0, 0, ⟨#[]⟩, 0, ⟨#[]⟩⟩ : F).cs.toArray = #[.int .i64 5, .int .i64 1, .int .i64 4, .int .i64 1, .int .i64 0, .int .i64 0, .string ⟨#[]⟩, .int .i64 0, .string ⟨#[]⟩] from rfl, ← hV29, ← ho29, ← hB29] at q29
        rw [← hV29, ← hB29]
        have L29 := hid q29.1
        have Nn_29 := hid q29.2.1.k
        clear q29 hV29 ho29 hB29 
        have TK : Hid (Calls Tryz.prog 9 #[.pointer (some ⟨X, 0, none⟩), .agg #[.int .i64 5, .int .i64 1, .int .i64 4, .int .i64 1, .int .i64 0, .int .i64 0, .string ⟨#[]⟩, .int .i64 0, .string ⟨#[]⟩]] V29 fun e w' => e = .returned (.tuple #[.agg #[.int .i64 6, .int .i64 1, .int .i64 4, .int .i64 1, .int .i64 0, .int .i64 0, .string ⟨#[]⟩, .int .i64 0, .string ⟨#[]⟩], .bool true]) ∧ ∃ o', Lw w w' o' X s5 ∧ Kept V29 o29 w' o') := hid (lw_take L29.out (Nat.zero_le _) (⟨5, 1, 4, 1, 0, 0, ⟨#[]⟩, 0, ⟨#[]⟩⟩ : F) T6.out rfl rfl)
        go_wp2_with fail
        refine TK.out.mono ?_
        rintro e w30 ⟨rfl, o30, l30, k30⟩
        have L30 := hid l30
        clear TK k30 l30
        go_wp2_with fail
        obtain ⟨V31, hV31⟩ : ∃ V, V = w30.alloc (.cells #[.int .i64 6, .int .i64 1, .int .i64 4, .int .i64 1, .int .i64 0, .int .i64 0, .string ⟨#[]⟩, .int .i64 0, .string ⟨#[]⟩] 27) := ⟨_, rfl⟩
        obtain ⟨o31, ho31⟩ : ∃ o, o = nwl o30 w30.heap.size := ⟨_, rfl⟩
        obtain ⟨B31, hB31⟩ : ∃ B, B = w30.heap.size := ⟨_, rfl⟩
        have q31 := L30.out.box (⟨6, 1, 4, 1, 0, 0, ⟨#[]⟩, 0, ⟨#[]⟩⟩ : F)
        rw [show (⟨6, 1, 4, 1, 0, 0, ⟨#[]⟩, 0, ⟨#[]⟩⟩ : F).cs.toArray = #[.int .i64 6, .int .i64 1, .int .i64 4, .int .i64 1, .int .i64 0, .int .i64 0, .string ⟨#[]⟩, .int .i64 0, .string ⟨#[]⟩] from rfl, ← hV31, ← ho31, ← hB31] at q31
        rw [← hV31, ← hB31]
        have L31 := hid q31.1
        have Ab_31 := hid q31.2.1.k
        clear q31 hV31 ho31 hB31 
        go_wp2_with fail
        refine (askn_any 2 72 ⟨#[107]⟩ ⟨#[]⟩ 0 rfl _).mono ?_
        rintro e w32 ⟨rfl, b32⟩
        have L32 := hid (L31.out.below b32)
        clear b32
        have TK : Hid (Calls Tryz.prog 9 #[.pointer (some ⟨X, 0, none⟩), .agg #[.int .i64 2, .int .i64 1, .int .i64 3, .int .i64 72, .int .i64 0, .int .i64 1, .string ⟨#[107]⟩, .int .i64 0, .string ⟨#[]⟩]] w32 fun e w' => e = .returned (.tuple #[.agg #[.int .i64 0, .int .i64 0, .int .i64 0, .int .i64 0, .int .i64 0, .int .i64 0, .string ⟨#[]⟩, .int .i64 0, .string ⟨#[]⟩], .bool false]) ∧ ∃ o', Lw w w' o' X s5 ∧ Kept w32 o31 w' o') := hid (lw_take L32.out n5 (⟨2, 1, 3, 72, 0, 1, ⟨#[107]⟩, 0, ⟨#[]⟩⟩ : F) T7.out rfl rfl)
        go_wp2_with fail
        refine TK.out.mono ?_
        rintro e w33 ⟨rfl, o33, l33, k33⟩
        have L33 := hid l33
        clear TK k33 l33
        go_upto_region 38 with fail
        obtain ⟨VV, hV⟩ : ∃ V, V = w33.alloc (.cells #[.int .i64 0, .int .i64 0, .int .i64 0, .int .i64 0, .int .i64 0, .int .i64 0, .string ⟨#[]⟩, .int .i64 0, .string ⟨#[]⟩] 27) := ⟨_, rfl⟩
        have bV : Below w33.heap.size w33 VV := by rw [hV]; exact bel_alloc _ _
        rw [← hV]
        have LV := L33.out.below bV
        have HF := hid LV.fin
        have LN := hid (plen_any X s5 _ _ LV.I)
        obtain ⟨C, D, d, IV⟩ := LV.I
        have INV := hid (inc_any X s5 C D VV IV.c)
        rw [E5.out.1] at INV
        rw [E5.out.2] at LN
        clear IV LV hV bV
        go_wp2_with (first
          | (go_at_call 19; refine LN.out.mono ?_; rintro e w' ⟨rfl, rfl⟩)
          | (go_at_call 13; refine INV.out.mono ?_; rintro e w' ⟨rfl, rfl⟩)
          | (go_at_call 3; refine (runs_any _).mono ?_; rintro e w' ⟨rfl, br⟩))
        go_ret
        exact ⟨rfl, HF.out.trans (br.mono HF.out.size)⟩
      · go_wp2_with fail
        refine (askn_any 2 70 ⟨#[107]⟩ ⟨#[]⟩ 0 rfl _).mono ?_
        rintro e w21 ⟨rfl, b21⟩
        have L21 := hid (LR.out.below b21)
        clear b21
        have TK : Hid (Calls Tryz.prog 9 #[.pointer (some ⟨X, 0, none⟩), .agg #[.int .i64 2, .int .i64 1, .int .i64 3, .int .i64 70, .int .i64 0, .int .i64 1, .string ⟨#[107]⟩, .int .i64 0, .string ⟨#[]⟩]] w21 fun e w' => e = .returned (.tuple #[.agg #[.int .i64 6, .int .i64 1, .int .i64 3, .int .i64 70, .int .i64 0, .int .i64 1, .string ⟨#[107]⟩, .int .i64 1, .string ⟨#[118]⟩], .bool true]) ∧ ∃ o', Lw w w' o' X s4 ∧ Kept w21 o w' o') := hid (lw_take L21.out n3 (⟨2, 1, 3, 70, 0, 1, ⟨#[107]⟩, 0, ⟨#[]⟩⟩ : F) T4.out rfl rfl)
        go_wp2_with fail
        refine TK.out.mono ?_
        rintro e w22 ⟨rfl, o22, l22, k22⟩
        have L22 := hid l22
        clear TK k22 l22
        go_wp2_with fail
        obtain ⟨V23, hV23⟩ : ∃ V, V = w22.alloc (.cells #[.int .i64 6, .int .i64 1, .int .i64 3, .int .i64 70, .int .i64 0, .int .i64 1, .string ⟨#[107]⟩, .int .i64 1, .string ⟨#[118]⟩] 27) := ⟨_, rfl⟩
        obtain ⟨o23, ho23⟩ : ∃ o, o = nwl o22 w22.heap.size := ⟨_, rfl⟩
        obtain ⟨B23, hB23⟩ : ∃ B, B = w22.heap.size := ⟨_, rfl⟩
        have q23 := L22.out.box (⟨6, 1, 3, 70, 0, 1, ⟨#[107]⟩, 1, ⟨#[118]⟩⟩ : F)
        rw [show (⟨6, 1, 3, 70, 0, 1, ⟨#[107]⟩, 1, ⟨#[118]⟩⟩ : F).cs.toArray = #[.int .i64 6, .int .i64 1, .int .i64 3, .int .i64 70, .int .i64 0, .int .i64 1, .string ⟨#[107]⟩, .int .i64 1, .string ⟨#[118]⟩] from rfl, ← hV23, ← ho23, ← hB23] at q23
        rw [← hV23, ← hB23]
        have L23 := hid q23.1
        have Aa_23 := hid q23.2.1.k
        clear q23 hV23 ho23 hB23 
        refine (plen_any X s4 _ _ L23.out.I).mono ?_
        rintro e wl ⟨rfl, rfl⟩
        rw [E4.out]
        go_wp2_with fail
        refine (lw_wipe L23.out).mono ?_
        rintro e w24 ⟨rfl, o24, l24, k24⟩
        have L24 := hid l24
        clear k24 l24
        go_wp2_with fail
        refine (askn_any 2 71 ⟨#[107]⟩ ⟨#[]⟩ 0 rfl _).mono ?_
        rintro e w25 ⟨rfl, b25⟩
        have L25 := hid (L24.out.below b25)
        clear b25
        have TK : Hid (Calls Tryz.prog 9 #[.pointer (some ⟨X, 0, none⟩), .agg #[.int .i64 2, .int .i64 1, .int .i64 3, .int .i64 71, .int .i64 0, .int .i64 1, .string ⟨#[107]⟩, .int .i64 0, .string ⟨#[]⟩]] w25 fun e w' => e = .returned (.tuple #[.agg #[.int .i64 0, .int .i64 0, .int .i64 0, .int .i64 0, .int .i64 0, .int .i64 0, .string ⟨#[]⟩, .int .i64 0, .string ⟨#[]⟩], .bool false]) ∧ ∃ o', Lw w w' o' X s4.wipe ∧ Kept w25 o24 w' o') := hid (lw_take L25.out (Nat.zero_le _) (⟨2, 1, 3, 71, 0, 1, ⟨#[107]⟩, 0, ⟨#[]⟩⟩ : F) T5.out rfl rfl)
        go_wp2_with fail
        refine TK.out.mono ?_
        rintro e w26 ⟨rfl, o26, l26, k26⟩
        have L26 := hid l26
        clear TK k26 l26
        go_wp2_with fail
        obtain ⟨V27, hV27⟩ : ∃ V, V = w26.alloc (.cells #[.int .i64 0, .int .i64 0, .int .i64 0, .int .i64 0, .int .i64 0, .int .i64 0, .string ⟨#[]⟩, .int .i64 0, .string ⟨#[]⟩] 27) := ⟨_, rfl⟩
        obtain ⟨o27, ho27⟩ : ∃ o, o = nwl o26 w26.heap.size := ⟨_, rfl⟩
        obtain ⟨B27, hB27⟩ : ∃ B, B = w26.heap.size := ⟨_, rfl⟩
        have q27 := L26.out.box (⟨0, 0, 0, 0, 0, 0, ⟨#[]⟩, 0, ⟨#[]⟩⟩ : F)
        rw [show (⟨0, 0, 0, 0, 0, 0, ⟨#[]⟩, 0, ⟨#[]⟩⟩ : F).cs.toArray = #[.int .i64 0, .int .i64 0, .int .i64 0, .int .i64 0, .int .i64 0, .int .i64 0, .string ⟨#[]⟩, .int .i64 0, .string ⟨#[]⟩] from rfl, ← hV27, ← ho27, ← hB27] at q27
        rw [← hV27, ← hB27]
        have L27 := hid q27.1
        have Zz_27 := hid q27.2.1.k
        clear q27 hV27 ho27 hB27 
        go_wp2_with fail
        refine (ask5_any 1 ⟨#[]⟩ ⟨#[]⟩ 0 _).mono ?_
        rintro e w28 ⟨rfl, b28⟩
        have L28 := hid (L27.out.below b28)
        clear b28
        go_wp2_with fail
        obtain ⟨V29, hV29⟩ : ∃ V, V = w28.alloc (.cells #[.int .i64 5, .int .i64 1, .int .i64 4, .int .i64 1, .int .i64 0, .int .i64 0, .string ⟨#[]⟩, .int .i64 0, .string ⟨#[]⟩] 27) := ⟨_, rfl⟩
        obtain ⟨o29, ho29⟩ : ∃ o, o = nwl o27 w28.heap.size := ⟨_, rfl⟩
        obtain ⟨B29, hB29⟩ : ∃ B, B = w28.heap.size := ⟨_, rfl⟩
        have q29 := L28.out.box (⟨5, 1, 4, 1, 0, 0, ⟨#[]⟩, 0, ⟨#[]⟩⟩ : F)
        rw [show (⟨5, 1, 4, 1, 0, 0, ⟨#[]⟩, 0, ⟨#[]⟩⟩ : F).cs.toArray = #[.int .i64 5, .int .i64 1, .int .i64 4, .int .i64 1, .int .i64 0, .int .i64 0, .string ⟨#[]⟩, .int .i64 0, .string ⟨#[]⟩] from rfl, ← hV29, ← ho29, ← hB29] at q29
        rw [← hV29, ← hB29]
        have L29 := hid q29.1
        have Nn_29 := hid q29.2.1.k
        clear q29 hV29 ho29 hB29 
        have TK : Hid (Calls Tryz.prog 9 #[.pointer (some ⟨X, 0, none⟩), .agg #[.int .i64 5, .int .i64 1, .int .i64 4, .int .i64 1, .int .i64 0, .int .i64 0, .string ⟨#[]⟩, .int .i64 0, .string ⟨#[]⟩]] V29 fun e w' => e = .returned (.tuple #[.agg #[.int .i64 6, .int .i64 1, .int .i64 4, .int .i64 1, .int .i64 0, .int .i64 0, .string ⟨#[]⟩, .int .i64 0, .string ⟨#[]⟩], .bool true]) ∧ ∃ o', Lw w w' o' X s5 ∧ Kept V29 o29 w' o') := hid (lw_take L29.out (Nat.zero_le _) (⟨5, 1, 4, 1, 0, 0, ⟨#[]⟩, 0, ⟨#[]⟩⟩ : F) T6.out rfl rfl)
        go_wp2_with fail
        refine TK.out.mono ?_
        rintro e w30 ⟨rfl, o30, l30, k30⟩
        have L30 := hid l30
        clear TK k30 l30
        go_wp2_with fail
        obtain ⟨V31, hV31⟩ : ∃ V, V = w30.alloc (.cells #[.int .i64 6, .int .i64 1, .int .i64 4, .int .i64 1, .int .i64 0, .int .i64 0, .string ⟨#[]⟩, .int .i64 0, .string ⟨#[]⟩] 27) := ⟨_, rfl⟩
        obtain ⟨o31, ho31⟩ : ∃ o, o = nwl o30 w30.heap.size := ⟨_, rfl⟩
        obtain ⟨B31, hB31⟩ : ∃ B, B = w30.heap.size := ⟨_, rfl⟩
        have q31 := L30.out.box (⟨6, 1, 4, 1, 0, 0, ⟨#[]⟩, 0, ⟨#[]⟩⟩ : F)
        rw [show (⟨6, 1, 4, 1, 0, 0, ⟨#[]⟩, 0, ⟨#[]⟩⟩ : F).cs.toArray = #[.int .i64 6, .int .i64 1, .int .i64 4, .int .i64 1, .int .i64 0, .int .i64 0, .string ⟨#[]⟩, .int .i64 0, .string ⟨#[]⟩] from rfl, ← hV31, ← ho31, ← hB31] at q31
        rw [← hV31, ← hB31]
        have L31 := hid q31.1
        have Ab_31 := hid q31.2.1.k
        clear q31 hV31 ho31 hB31 
        go_wp2_with fail
        refine (askn_any 2 72 ⟨#[107]⟩ ⟨#[]⟩ 0 rfl _).mono ?_
        rintro e w32 ⟨rfl, b32⟩
        have L32 := hid (L31.out.below b32)
        clear b32
        have TK : Hid (Calls Tryz.prog 9 #[.pointer (some ⟨X, 0, none⟩), .agg #[.int .i64 2, .int .i64 1, .int .i64 3, .int .i64 72, .int .i64 0, .int .i64 1, .string ⟨#[107]⟩, .int .i64 0, .string ⟨#[]⟩]] w32 fun e w' => e = .returned (.tuple #[.agg #[.int .i64 0, .int .i64 0, .int .i64 0, .int .i64 0, .int .i64 0, .int .i64 0, .string ⟨#[]⟩, .int .i64 0, .string ⟨#[]⟩], .bool false]) ∧ ∃ o', Lw w w' o' X s5 ∧ Kept w32 o31 w' o') := hid (lw_take L32.out n5 (⟨2, 1, 3, 72, 0, 1, ⟨#[107]⟩, 0, ⟨#[]⟩⟩ : F) T7.out rfl rfl)
        go_wp2_with fail
        refine TK.out.mono ?_
        rintro e w33 ⟨rfl, o33, l33, k33⟩
        have L33 := hid l33
        clear TK k33 l33
        go_upto_region 38 with fail
        obtain ⟨VV, hV⟩ : ∃ V, V = w33.alloc (.cells #[.int .i64 0, .int .i64 0, .int .i64 0, .int .i64 0, .int .i64 0, .int .i64 0, .string ⟨#[]⟩, .int .i64 0, .string ⟨#[]⟩] 27) := ⟨_, rfl⟩
        have bV : Below w33.heap.size w33 VV := by rw [hV]; exact bel_alloc _ _
        rw [← hV]
        have LV := L33.out.below bV
        have HF := hid LV.fin
        have LN := hid (plen_any X s5 _ _ LV.I)
        obtain ⟨C, D, d, IV⟩ := LV.I
        have INV := hid (inc_any X s5 C D VV IV.c)
        rw [E5.out.1] at INV
        rw [E5.out.2] at LN
        clear IV LV hV bV
        go_wp2_with (first
          | (go_at_call 19; refine LN.out.mono ?_; rintro e w' ⟨rfl, rfl⟩)
          | (go_at_call 13; refine INV.out.mono ?_; rintro e w' ⟨rfl, rfl⟩)
          | (go_at_call 3; refine (runs_any _).mono ?_; rintro e w' ⟨rfl, br⟩))
        go_ret
        exact ⟨rfl, HF.out.trans (br.mono HF.out.size)⟩
end Go.Proofs.YtfinaichajbnkaaGreat
