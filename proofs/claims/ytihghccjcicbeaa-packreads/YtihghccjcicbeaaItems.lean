/-
  ITEMS that came in; append as a step of a region that draws; PACKWRITES walked.
-/
import Derived.Test.YtihghccjcicbeaaRuns
import Derived.Deep.RegionLaw
import Derived.Deep.RegionHeld3
namespace Go.Proofs.Ytihghccjcicbeaa
open Go.RowKit

/-- n things to write lie at a. -/
def ItemF (w : World) (a : Option Addr) (K N : Nat → Int) (S : Nat → ByteArray) (n : Nat) : Prop :=
  n = 0 ∨ ∃ p off, a = some ⟨p, off, none⟩ ∧ ∀ i, i < n → w.cell? ⟨p, off + i * 3, none⟩ = some (.int .i64 (K i)) ∧ w.cell? ⟨p, off + i * 3 + 1, none⟩ = some (.int .i64 (N i)) ∧ w.cell? ⟨p, off + i * 3 + 2, none⟩ = some (.string (S i))
theorem ItemF.up {w w' : World} {a : Option Addr} {K N : Nat → Int} {S : Nat → ByteArray} {n : Nat} (h : ItemF w a K N S n) (hb : Below w.heap.size w w') : ItemF w' a K N S n := by
  rcases h with h | ⟨p, off, e, hr⟩
  · exact .inl h
  · exact .inr ⟨p, off, e, fun i hi => ⟨cell_up hb (hr i hi).1, cell_up hb (hr i hi).2.1, cell_up hb (hr i hi).2.2⟩⟩
/-- Worlds that part by draws alone. -/
structure Alike (w w' : World) : Prop where
  os : w'.os = w.os
  tape : w'.tape = w.tape
  output : w'.output = w.output
  heap : w'.heap = w.heap
theorem Alike.below {w w' : World} (h : Alike w w') (B : Nat) : Below B w w' := ⟨h.os, h.tape, h.output, by rw [h.heap]; exact Nat.le_refl _, fun _ _ => by rw [h.heap]⟩
/-- append([]byte{}, b...) as a step of a region that draws. -/
theorem step_copy {ops : Array Oper} {o : Oper} {a : Act} {w X : World} {K : Act → World → Prop} {Q : Exit → Act → World → Prop} {E : Prop} {ad : Option Addr} {f : Nat → Nat} {n c : Nat} (hgd : o.guard = none) (s x : Operand)
    (ho : o.op = .call { callee := .builtin .append, args := #[s, x], argTypes := #[23, 23] }) (hty : o.type = 23) (hX : w = X.alloc (.cells #[] 5))
    (hs : a.eval s = .slice (some ⟨X.heap.size, 0, none⟩) 0 0) (hx : a.eval x = .slice ad n c) (hr : RowF X ad f n) (hb : n ≤ 140737488355328)
    (h : ∀ v' w', OwnC w' X.heap.size v' (tab f n) → Below X.heap.size X w' → K (a.put o.dst v') w') :
    if Region.wanted o (yielded ops a.tmps) = true then Oper.wp Try.prog o a w K Q else E := by
  subst hX
  rw [if_pos (by simp [Region.wanted, hgd])]
  obtain ⟨v', w', h1, h2, h3⟩ := copy_row (w := X) c hr hb
  unfold Oper.wp execOp
  simp only [ho, hty, resolve, invoke, builtin, Sem.run_bind, Sem.run_pure, Result.andThen_ok, List.map_toArray, List.map_cons, List.map_nil, hs, hx, h1]
  exact h v' w' h2 h3
set_option maxHeartbeats 1000000 in
theorem same_big (a a' : Option Addr) (n c c' : Nat) (f g : Nat → Nat) (hn : n ≤ 140737488355328) (hfg : ∀ i, i < n → f i = g i) (w : World) (ra : RowF w a f n) (rb : RowF w a' g n) :
    Calls Try.prog 8 #[.slice a n c, .slice a' n c'] w fun e w' => e = .returned (.bool true) ∧ ∃ m, w' = w.drewN m := by
  have ne : ((n : Int) != (n : Int)) = false := by simp
  go_enter Try.func8, Try.ntmps8
  go_wp2_with fail
  go_loopw [5] (fun i wr => ∃ j m : Nat, j ≤ n ∧ i = .int .i64 (j : Int) ∧ Hid (wr = w.drewN m)) (fun i _ => n - (intOf i).toNat)
  case atStart => exact ⟨0, 0, by omega, rfl, rfl⟩
  case round =>
    obtain ⟨j, m, hj, rfl, HW⟩ := hrel
    by_cases hlt : j < n
    · obtain ⟨p, o, rfl, q1⟩ : ∃ p off, a = some ⟨p, off, none⟩ ∧ ∀ i, i < n → w.cell? ⟨p, off + i, none⟩ = some (.int .u8 ((f i : Nat) : Int)) := by
        rcases ra with r | r
        · exfalso; omega
        · exact r
      obtain ⟨p', o', rfl, q2⟩ : ∃ p off, a' = some ⟨p, off, none⟩ ∧ ∀ i, i < n → w.cell? ⟨p, off + i, none⟩ = some (.int .u8 ((g i : Nat) : Int)) := by
        rcases rb with r | r
        · exfalso; omega
        · exact r
      have c1 : wr.cell? ⟨p, o + j, none⟩ = some (.int .u8 ((f j : Nat) : Int)) := (by rw [HW.out]; exact q1 j hlt)
      have c2 : wr.cell? ⟨p', o' + j, none⟩ = some (.int .u8 ((f j : Nat) : Int)) := (by rw [HW.out, hfg j hlt]; exact q2 j hlt)
      clear q1 q2 ra rb
      have hi1 : (j : Int) < (n : Int) := by omega
      go_wp2
      go_quiet (fail)
      go_wp2
      go_roundw
      case rel => exact ⟨j + 1, m + nq, by omega, by go_num, by show _ = _; rw [HW.out, World.drewN_drewN]⟩
      case measure => simp [intOf]; omega
    · go_wp2
      go_ret
      exact ⟨rfl, m, HW.out⟩

theorem same_any' (a a' : Option Addr) (n c c' : Nat) (f g : Nat → Nat) (hn : n ≤ 140737488355328) (hfg : ∀ i, i < n → f i = g i) (w : World) (ra : RowF w a f n) (rb : RowF w a' g n) :
    Calls Try.prog 8 #[.slice a n c, .slice a' n c'] w fun e w' => e = .returned (.bool true) ∧ Below w.heap.size w w' := by
  refine (same_big a a' n c c' f g hn hfg w ra rb).mono ?_
  rintro e w2 ⟨rfl, d, rfl⟩
  exact ⟨rfl, below_drewN (Below.refl _ _) d⟩
set_option maxHeartbeats 2000000 in
theorem writes_walk (a : Option Addr) (len cap : Nat) (f : Nat → Nat) (hlen : len ≤ 140737488351232) (la : Option Addr) (ln lc : Nat) (K N : Nat → Int) (S : Nat → ByteArray) (hN : ∀ i, i < ln → -9223372036854775808 ≤ N i ∧ N i ≤ 9223372036854775807) (hln : ln ≤ 9223372036854775807)
    (w : World) (ra : RowF w a f len) (ri : ItemF w la K N S ln) :
    Calls Try.prog 4 #[.slice a len cap, .slice la ln lc] w fun e w' => e = .returned (.bool true) ∧ Below w.heap.size w w' := by
  have RA : Hid (RowF w a f len) := ra
  have RI : Hid (ItemF w la K N S ln) := ri
  have HN : Hid (∀ i, i < ln → -9223372036854775808 ≤ N i ∧ N i ≤ 9223372036854775807) := hN
  clear ra ri hN
  go_enter Try.func4, Try.ntmps4
  go_wp2_with fail
  refine (roomy_any a len cap 11 _ f rfl hlen _ RA.out).mono ?_
  rintro e w2 ⟨rfl, r2, b2⟩
  have hi2 : (len : Int) ≤ (len : Int) + 80 := by omega
  have RA2 : Hid (∀ X, Alike w2 X → RowF X a f len) := fun X hX => (RA.out.below b2).below (hX.below _)
  go_wp2_with fail
  go_region_law (refine step_copy (X := w2.drew) rfl _ _ rfl rfl rfl rfl rfl (RA2.out _ ⟨rfl, rfl, rfl, rfl⟩) (by omega) ?_; intro v3 w3 O3 B3)
  have HB2 : Below w.heap.size w w2.drew := b2.drew
  have B3' : Hid (Below w.heap.size w w3) := HB2.trans (B3.mono HB2.size)
  have RF3 : Hid (RowF w3 (some ⟨w.heap.size, 0, none⟩) (roomF f len 11) (len + 80)) := (r2.below (Below.refl w2.heap.size w2).drew).below B3
  obtain ⟨a3, c3, rfl, _, r3⟩ := O3.row
  have R3 : Hid (RowF w3 a3 (lf (tab f len)) (tab f len).length) := r3
  have R3' : Hid (RowF w3 (some ⟨w.heap.size, 0, none⟩) (lf (tab f len)) (tab f len).length) := by
    rcases RF3.out with h | ⟨p, off, e, hr⟩
    · exfalso; omega
    · refine .inr ⟨p, off, e, fun j hj => ?_⟩
      rw [tab_length] at hj
      rw [hr j (by omega), lf_tab hj]; unfold roomF; rw [if_pos hj]
  obtain ⟨l0, hl0⟩ : ∃ l0, l0 = tab f len := ⟨_, rfl⟩
  have hll : l0.length = len := by rw [hl0, tab_length]
  rw [← hl0] at R3 R3' ⊢
  rw [hll] at R3 R3' ⊢
  have HL0 : Hid (len = l0.length) := hll.symm
  have HT0 : Hid (l0 = tab f len) := hl0
  clear O3 B3 r3 HB2 r2 b2 RA2 hl0 hll
  go_wp2_with fail
  go_loopw [6, 7, 8] (fun x y z wr => ∃ (l : List Nat) (i m : Nat) (a c a' c' : _), x = .slice a m c ∧ y = .slice a' m c' ∧ z = .int .i64 ((i : Nat) : Int) ∧ i ≤ 30 ∧ i ≤ ln ∧ m ≤ len + 110 * i ∧ Hid (m = l.length) ∧ Hid (RowF wr a (lf l) m) ∧ Hid (RowF wr a' (lf l) m) ∧ Hid (RowF wr (some ⟨w.heap.size, 0, none⟩) (roomF f len 11) (len + 80)) ∧ Hid (Below w.heap.size w wr)) (fun _ _ z _ => 30 - (intOf z).toNat)
  case atStart => exact ⟨l0, 0, len, _, _, _, _, rfl, rfl, rfl, by omega, by omega, by omega, HL0, R3', R3, RF3, B3'⟩
  case round =>
    clear HL0 HT0 R3 R3' RF3 B3'
    obtain ⟨l, i, m, x, cx, y, cy, rfl, rfl, rfl, hi30, hiln, hm, HM, RX, RY, RF, HB⟩ := hrel
    by_cases hlt : i < ln ∧ i < 30
    · obtain ⟨g1, g2⟩ := hlt
      have k1 : (i : Int) < (ln : Int) := by omega
      have k2 : (i : Int) < (30 : Int) := by omega
      have hmb : m + 10 + 100 ≤ 140737488355328 := by omega
      obtain ⟨p, off, rfl, hc⟩ : ∃ p off, la = some ⟨p, off, none⟩ ∧ ∀ i, i < ln → w.cell? ⟨p, off + i * 3, none⟩ = some (.int .i64 (K i)) ∧ w.cell? ⟨p, off + i * 3 + 1, none⟩ = some (.int .i64 (N i)) ∧ w.cell? ⟨p, off + i * 3 + 2, none⟩ = some (.string (S i)) := by
        rcases RI.out with r | r
        · exfalso; omega
        · exact r
      have d0 : wr.cell? ⟨p, off + i * 3, none⟩ = some (.int .i64 (K i)) := cell_up HB.out (hc i g1).1
      have d1 : wr.cell? ⟨p, off + i * 3 + 1, none⟩ = some (.int .i64 (N i)) := cell_up HB.out (hc i g1).2.1
      have d2 : wr.cell? ⟨p, off + i * 3 + 2, none⟩ = some (.string (S i)) := cell_up HB.out (hc i g1).2.2
      have hNi := HN.out i g1
      clear hc
      by_cases hk : K i = 2
      · have hk1 : (K i == 2) = true := by simp [hk]
        clear hk
        by_cases hs : (S i).size ≤ 100
        case' pos =>
          have s1 : decide ((100 : Int) < ((S i).size : Int)) = false := by simp; omega
          obtain ⟨s, hss⟩ : ∃ s, s = S i := ⟨_, rfl⟩
          rw [← hss] at d2 s1 hs
          clear hss
          go_wp2_with fail
        case' neg =>
          have s1 : (100 : Int) < ((S i).size : Int) := by omega
          have s2 : (100 : Int) ≤ ((S i).size : Int) := by omega
          have hs0 : ((S i).extract 0 100).size ≤ 100 := by rw [ByteArray.size_extract]; omega
          go_wp2_with fail
          obtain ⟨s, hss⟩ : ∃ s, s = (S i).extract 0 100 := ⟨_, rfl⟩
          rw [← hss] at hs0 ⊢
          clear hss hs
          have hs := hs0
        all_goals
          refine (text_any x m cx (lf l) s (by omega) _ RX.out).mono ?_
          rintro e w4 ⟨v4, rfl, O4, B4⟩
          have HB4 : Hid (Below w.heap.size w w4) := HB.out.trans (B4.mono HB.out.size)
          have RY4 : Hid (RowF w4 y (lf l) m) := RY.out.below B4
          have RF4 : Hid (RowF w4 (some ⟨w.heap.size, 0, none⟩) (roomF f len 11) (len + 80)) := RF.out.below B4
          have hlen4 := enc_len10 (u := s.size * 2) (by omega)
          obtain ⟨l2, hl2⟩ : ∃ l2, l2 = tab (lf l) m ++ (enc (s.size * 2) ++ sb s) := ⟨_, rfl⟩
          have HL2 : Hid (tab (lf l) m ++ (enc (s.size * 2) ++ sb s) = l2) := hl2.symm
          obtain ⟨m2, hm2⟩ : ∃ m2, m2 = l2.length := ⟨_, rfl⟩
          have hm2' : m2 ≤ len + 110 * (i + 1) := by
            rw [hm2, hl2, List.length_append, List.length_append, tab_length, sb_length]; omega
          rw [← hl2] at O4
          have HM2 : Hid (m2 = l2.length) := hm2
          obtain ⟨a4, c4, rfl, _, r4⟩ := O4.row
          rw [← hm2] at r4 ⊢
          have R4 : Hid (RowF w4 a4 (lf l2) m2) := r4
          clear hl2 hm2 hlen4 O4 B4 r4 RX RY RF HB HM d0 d1 d2
          go_wp2_with fail
          refine (rtext_any y m cy (lf l) s (by omega) _ RY4.out).mono ?_
          rintro e w5 ⟨v5, rfl, O5, B5⟩
          rw [HL2.out] at O5
          have HB5 : Hid (Below w.heap.size w w5) := HB4.out.trans (B5.mono HB4.out.size)
          have R45 : Hid (RowF w5 a4 (lf l2) m2) := R4.out.below B5
          have RF5 : Hid (RowF w5 (some ⟨w.heap.size, 0, none⟩) (roomF f len 11) (len + 80)) := RF4.out.below B5
          obtain ⟨a5, c5, rfl, _, r5⟩ := O5.row
          rw [← HM2.out] at r5 ⊢
          have R5 : Hid (RowF w5 a5 (lf l2) m2) := r5
          clear O5 B5 r5 HB4 R4 RF4 RY4
          go_wp2_with fail
          exact ⟨⟨l2, i + 1, m2, _, _, _, _, rfl, rfl, by go_num, by omega, by omega, hm2', HM2, R45, R5, RF5, HB5⟩, by simp [intOf]; omega⟩
      · have hk1 : (K i == 2) = false := by simp [hk]
        clear hk
        have RXA : Hid (∀ X, Alike wr X → RowF X x (lf l) m) := fun X hX => RX.out.below (hX.below _)
        have RYA : Hid (∀ X Z, Alike wr X → Below X.heap.size X Z → RowF Z y (lf l) m) := fun X Z hX hZ => (RY.out.below (hX.below _)).below hZ
        have CA : Hid (∀ X Z, Alike wr X → Below X.heap.size X Z → Z.cell? ⟨p, off + i * 3 + 1, none⟩ = some (.int .i64 (N i))) := fun X Z hX hZ => cell_up hZ (cell_up (hX.below _) d1)
        have ZA : Hid (∀ X Z, Alike wr X → Below X.heap.size X Z → Below wr.heap.size wr Z) := fun X Z hX hZ => by
          have := hX.below wr.heap.size
          exact this.trans (hZ.mono this.size)
        by_cases hs : (S i).size ≤ 100
        case' pos =>
          have s1 : decide ((100 : Int) < ((S i).size : Int)) = false := by simp; omega
          go_wp2_with fail
        case' neg =>
          have s1 : (100 : Int) < ((S i).size : Int) := by omega
          have s2 : (100 : Int) ≤ ((S i).size : Int) := by omega
          go_wp2_with fail
        all_goals
          go_region_held3 (fun w' => w'.cell? ⟨p, off + i * 3 + 1, none⟩ = some (.int .i64 (N i)))
            (first | exact d1 | exact hC4 | exact hC5)
            (first
              | (go_at_call 9; refine (num_any x m cx (lf l) (N i) hNi.1 hNi.2 (by omega) _ (RXA.out wr.drew ⟨rfl, rfl, rfl, rfl⟩)).mono ?_; rintro e w4 ⟨v4, rfl, O4, B4⟩; have hC4 := CA.out wr.drew w4 ⟨rfl, rfl, rfl, rfl⟩ B4; have hY4 := RYA.out wr.drew w4 ⟨rfl, rfl, rfl, rfl⟩ B4; have hZ4 := ZA.out wr.drew w4 ⟨rfl, rfl, rfl, rfl⟩ B4)
              | (go_at_call 14; refine (rnum_any y m cy (lf l) (N i) hNi.1 hNi.2 (by omega) _ hY4).mono ?_; rintro e w5 ⟨v5, rfl, O5, B5⟩; have hC5 := cell_up B5 hC4))
          have hlen4 := enc_len10 (fold_lt hNi.1 hNi.2)
          obtain ⟨l2, hl2⟩ : ∃ l2, l2 = tab (lf l) m ++ enc (fold (N i)) := ⟨_, rfl⟩
          obtain ⟨m2, hm2⟩ : ∃ m2, m2 = l2.length := ⟨_, rfl⟩
          have hm2' : m2 ≤ len + 110 * (i + 1) := by
            rw [hm2, hl2, List.length_append, tab_length]; omega
          rw [← hl2] at O4 O5
          have HM2 : Hid (m2 = l2.length) := hm2
          have R4 := (O4.up B5).row
          obtain ⟨a4, c4, rfl, _, r4⟩ := R4
          obtain ⟨a5, c5, rfl, _, r5⟩ := O5.row
          have Z5 : Below wr.heap.size wr w5 := hZ4.trans (B5.mono hZ4.size)
          have HB5 : Hid (Below w.heap.size w w5) := HB.out.trans (Z5.mono HB.out.size)
          have RF5 : Hid (RowF w5 (some ⟨w.heap.size, 0, none⟩) (roomF f len 11) (len + 80)) := RF.out.below Z5
          rw [← hm2] at r4 r5 ⊢
          have H4 : Hid (RowF w5 a4 (lf l2) m2) := r4
          have H5 : Hid (RowF w5 a5 (lf l2) m2) := r5
          clear hl2 hm2 hlen4 O4 B4 r4 O5 B5 r5 RX RY RF HB HM d0 d1 d2 hC4 hC5 hY4 hZ4 Z5 RXA RYA CA ZA
          go_wp2_with fail
          exact ⟨⟨l2, i + 1, m2, _, _, _, _, rfl, rfl, by go_num, by omega, by omega, hm2', HM2, H4, H5, RF5, HB5⟩, by simp [intOf]; omega⟩
    · have hcase : (¬ i < ln) ∨ (i < ln ∧ ¬ i < 30) := by omega
      have hmb : m ≤ 140737488355328 := by omega
      rcases hcase with g | ⟨g, g'⟩
      case' inl =>
        have k1 : decide ((i : Int) < (ln : Int)) = false := by simp; omega
      case' inr =>
        have k1 : (i : Int) < (ln : Int) := by omega
        have k2 : decide ((i : Int) < (30 : Int)) = false := by simp; omega
      all_goals
        clear hlt
        go_wp2_with fail
        refine (same_any' x y m cx cy (lf l) (lf l) (by omega) (fun _ _ => rfl) _ RX.out RY.out).mono ?_
        rintro e w4 ⟨rfl, B4⟩
        have HB4 : Hid (Below w.heap.size w w4) := HB.out.trans (B4.mono HB.out.size)
        have RF4 : Hid (RowF w4 (some ⟨w.heap.size, 0, none⟩) (roomF f len 11) (len + 80)) := RF.out.below B4
        clear B4 HB RF RX RY HM
        go_wp2_with fail
        refine (intact_any w.heap.size a len cap 11 _ f rfl hlen _ RF4.out (RA.out.below HB4.out)).mono ?_
        rintro e w5 ⟨rfl, d5, rfl⟩
        have HB5 : Hid (Below w.heap.size w (w4.drewN d5)) := below_drewN HB4.out d5
        obtain ⟨w5, hw5⟩ : ∃ w5, w5 = w4.drewN d5 := ⟨_, rfl⟩
        rw [← hw5] at HB5 ⊢
        clear hw5 HB4 RF4
        go_wp2_with fail
        refine (runs_any _).mono ?_
        rintro e w6 ⟨rfl, B6⟩
        have HB6 : Hid (Below w.heap.size w w6) := HB5.out.trans (B6.mono HB5.out.size)
        clear B6 HB5
        go_wp2_with fail
        go_ret
        exact ⟨rfl, HB6.out⟩
end Go.Proofs.Ytihghccjcicbeaa
