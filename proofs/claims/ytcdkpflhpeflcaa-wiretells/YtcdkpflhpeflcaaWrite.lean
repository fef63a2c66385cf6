/-
  THE PROGRAM's WRITERS: withRoom, withNum, Num, Text.
-/
import Derived.Test.YtcdkpflhpeflcaaFold
namespace Go.Proofs.Ytcdkpflhpeflcaa
open Go.RowKit
/-- make([]byte, 0, c). -/
theorem make_room (w : World) (c : Nat) (C : Int) (hC : C = (c : Int)) (h : c ≤ 281474976710656) : ∃ w', (Instr.makeSlice 22 (.int .i64 0) (.int .i64 C)).run Try.prog w = .ok (.slice (some ⟨w.heap.size, 0, none⟩) 0 c) w' ∧
    OwnC w' w.heap.size (.slice (some ⟨w.heap.size, 0, none⟩) 0 c) [] ∧ Below w.heap.size w w' ∧ w.heap.size < w'.heap.size := by
  subst hC
  obtain ⟨i0, hi, hz0, hz1, hz2⟩ := info_parts info5
  obtain ⟨w', hrun, own, gr⟩ := run_make_own (P := Try.prog) w w.heap.size 22 5 i0 (.int .u8 0) 1 under32 hi hz0 hz1 .i64 .i64 c (by rw [hz2]; omega) (by unfold maxLen; omega) (Nat.le_refl _)
  have hb : Below w.heap.size w w' := (Below.refl _ _).grown gr (Nat.le_refl _) (fun k e => by cases e)
  have hlt := (own.lt w.heap.size rfl).2
  refine ⟨w', hrun, .inr ⟨w.heap.size, c, rfl, Nat.le_refl _, hlt, Nat.zero_le _, by unfold maxLen; omega, fun j hj => by simp at hj, fun j hj => ?_⟩, hb, hlt⟩
  rcases own.2 with ⟨h1, _⟩ | ⟨g, cap, cur, h1, _, h3, _, _, h6, _⟩
  · cases h1
  · injection h1 with e1 e2 e3
    injection e1 with e1
    injection e1 with e1 e4 e5
    subst e1 e3
    exact ⟨by rw [cell_of_row w' w.heap.size j cur 5 (0, 0) h3, Array.getElem?_eq_getElem (by omega)]; rfl, by simp [World.frozen?, h3]⟩
theorem withRoom_any (a : Option Addr) (n c : Nat) (f : Nat → Nat) (k : Nat) (K : Int) (hK : K = (k : Int)) (hk : k ≤ 140737488355328) (hn : n ≤ 140737488355328) (w : World) (ra : RowF w a f n) :
    Calls Try.prog 30 #[.slice a n c, .int .i64 K] w fun e w' => ∃ v, e = .returned v ∧ OwnC w' w.heap.size v (tab f n) ∧ Below w.heap.size w w' ∧ w.heap.size < w'.heap.size := by
  subst hK
  go_enter Try.func30, Try.ntmps30
  go_wp2_with fail
  obtain ⟨w1, hrun, O1, B1, L1⟩ := make_room w (n + k) ((n : Int) + (k : Int)) (by omega) (by omega)
  rw [hrun]
  clear hrun
  have r1 := ra.below B1
  obtain ⟨v2, w2, hrun, O2, B2⟩ := app_row c O1 B1.size r1 (by simp; omega)
  have H2 : Hid (OwnC w2 w.heap.size v2 (tab f n)) := O2
  have HB : Hid (Below w.heap.size w w2) := B1.trans B2
  have HL : Hid (w.heap.size < w2.heap.size) := Nat.lt_of_lt_of_le L1 B2.size
  clear O1 B1 O2 B2 r1 ra L1
  go_wp2_with (at_builtin; refine wpList_append_run rfl _ _ 22 22 rfl _ _ _ rfl rfl hrun ?_)
  go_ret
  exact ⟨_, rfl, H2, HB, HL⟩
set_option maxHeartbeats 1000000 in
set_option maxRecDepth 100000 in
theorem withNum_any (B : Nat) (v : Value) (l : List Nat) (n : Int) (h1 : -9223372036854775808 ≤ n) (h2 : n ≤ 9223372036854775807) (hl : l.length + 10 ≤ 140737488355328) (w : World) (hB : B ≤ w.heap.size) (ho : OwnC w B v l) :
    Calls Try.prog 29 #[v, .int .i64 n] w fun e w' => ∃ v', e = .returned v' ∧ OwnC w' B v' (l ++ enc (fold n)) ∧ Below B w w' := by
  have hf := fold_lt h1 h2
  have hlen := enc_len10 hf
  obtain ⟨u0, hu0⟩ : ∃ u, u = fold n := ⟨_, rfl⟩
  have HU : Hid (u0 = fold n) := hu0
  have HO : Hid (OwnC w B v l) := ho
  have HE : Hid (l ++ enc u0 = l ++ enc (fold n)) := by rw [hu0]; rfl
  have HN : Hid ((enc u0).length ≤ 10) := by rw [hu0]; exact hlen
  have hu : u0 < 18446744073709551616 := by rw [hu0]; exact hf
  clear hf hlen ho
  obtain ⟨av, cv, rfl, _⟩ := HO.out.row
  go_enter Try.func29, Try.ntmps29
  go_wp2_with fail
  refine (folded_any n h1 h2 _).mono ?_
  rintro e w2 ⟨rfl, rfl⟩
  rw [← hu0]
  clear hu0
  go_wp2_with fail
  go_loopw [0, 5] (fun x y wr => ∃ (m : List Nat) (u : Nat), y = .int .u64 (u : Int) ∧ u < 18446744073709551616 ∧ (∃ a c, x = .slice a m.length c) ∧ Hid (OwnC wr B x m) ∧ Hid (m ++ enc u = l ++ enc (fold n)) ∧ Hid (m.length + (enc u).length ≤ 140737488355328) ∧ Hid (Below B w wr)) (fun _ y _ => (intOf y).toNat)
  case atStart => exact ⟨l, u0, rfl, hu, ⟨_, _, rfl⟩, HO, HE, by have := HN.out; show _ ≤ _; omega, Below.refl _ _⟩
  case round =>
    clear HO HE HN hu HU
    obtain ⟨m, u, rfl, hu, ⟨a, c, rfl⟩, HO, HE, HN, HB⟩ := hrel
    have hBr : B ≤ wr.heap.size := Nat.le_trans hB HB.out.size
    by_cases hlt : u < 128
    · obtain ⟨v2, w2, hrun, O2, B2⟩ := app_one u HO.out hBr (by have := HN.out; have := enc_ne u; omega)
      have H2 : Hid (OwnC w2 B v2 (l ++ enc (fold n))) := by rw [← HE.out, enc_lo hlt]; exact O2
      have HB2 : Hid (Below B w w2) := HB.out.trans B2
      have i1 : decide ((128 : Int) ≤ (u : Int)) = false := by simp; omega
      have i2 : (u : Int) % 256 = (u : Int) := by omega
      clear HO HB O2 B2 HE HN
      go_wp2_with (at_builtin; refine wpList_append_run rfl _ _ 22 22 rfl _ _ _ rfl rfl hrun ?_)
      go_ret
      exact ⟨_, rfl, H2, HB2⟩
    · obtain ⟨x, hx⟩ : ∃ x, x = u % 128 + 128 := ⟨_, rfl⟩
      have hor : bits BinOp.or IntKind.u8 ((u : Int) % 256) 128 = ((x : Nat) : Int) := by
        have := or128 (u % 256) (by omega)
        rw [show u % 256 % 128 + 128 = x by omega] at this
        rw [← this]; congr 1
      obtain ⟨v2, w2, hrun, O2, B2⟩ := app_one x HO.out hBr (by have := HN.out; have := enc_ne u; omega)
      have e1 : enc u = x :: enc (u / 128) := by rw [enc_hi hlt, hx]
      have HE2 : Hid ((m ++ [x]) ++ enc (u / 128) = l ++ enc (fold n)) := by show _ = _; rw [← HE.out, e1]; simp
      have HN2 : Hid ((m ++ [x]).length + (enc (u / 128)).length ≤ 140737488355328) := by have := HN.out; rw [e1] at this; show _ ≤ _; simp at this ⊢; omega
      obtain ⟨m2, hm2⟩ : ∃ m2, m2 = m ++ [x] := ⟨_, rfl⟩
      rw [← hm2] at O2 HE2 HN2
      have H2 : Hid (OwnC w2 B v2 m2) := O2
      have HB2 : Hid (Below B w w2) := HB.out.trans B2
      obtain ⟨a2, c2, rfl, _⟩ := O2.row
      have i1 : (128 : Int) ≤ (u : Int) := by omega
      have hlt2 : 128 ≤ u := by omega
      clear HO HB O2 B2 HE HN hx e1 hm2
      go_wp2_with (at_builtin; refine wpList_append_run rfl _ _ 22 22 rfl _ _ _ rfl rfl hrun ?_)
      go_roundw
      case rel => exact ⟨m2, u / 128, by go_num, by omega, ⟨a2, c2, rfl⟩, H2, HE2, HN2, HB2⟩
      case measure => simp [intOf]; omega
theorem num_any (a : Option Addr) (k c : Nat) (f : Nat → Nat) (n : Int) (h1 : -9223372036854775808 ≤ n) (h2 : n ≤ 9223372036854775807) (hk : k + 10 ≤ 140737488355328) (w : World) (ra : RowF w a f k) :
    Calls Try.prog 17 #[.slice a k c, .int .i64 n] w fun e w' => ∃ v, e = .returned v ∧ OwnC w' w.heap.size v (tab f k ++ enc (fold n)) ∧ Below w.heap.size w w' := by
  go_enter Try.func17, Try.ntmps17
  go_wp2_with fail
  refine (withRoom_any a k c f 10 _ rfl (by omega) (by omega) _ ra).mono ?_
  rintro e w2 ⟨v, rfl, O1, B1, L1⟩
  have HO : Hid (OwnC w2 w.heap.size v (tab f k)) := O1
  have HB : Hid (Below w.heap.size w w2) := B1
  obtain ⟨a2, c2, rfl, _⟩ := O1.row
  clear O1 B1 L1
  go_wp2_with fail
  refine (withNum_any w.heap.size _ _ n h1 h2 (by rw [tab_length]; exact hk) _ HB.out.size HO.out).mono ?_
  rintro e w3 ⟨v3, rfl, O3, B3⟩
  have H3 : Hid (OwnC w3 w.heap.size v3 (tab f k ++ enc (fold n))) := O3
  have HB3 : Hid (Below w.heap.size w w3) := HB.out.trans B3
  clear O3 B3 HO HB
  go_wp2_with fail
  go_ret
  exact ⟨_, rfl, H3, HB3⟩
theorem text_any (a : Option Addr) (k c : Nat) (f : Nat → Nat) (s : ByteArray) (hk : k + 10 + s.size ≤ 140737488355328) (w : World) (ra : RowF w a f k) :
    Calls Try.prog 18 #[.slice a k c, .string s] w fun e w' => ∃ v, e = .returned v ∧ OwnC w' w.heap.size v (tab f k ++ (enc (s.size * 2) ++ sb s)) ∧ Below w.heap.size w w' := by
  have hs : s.size ≤ 140737488355328 := by omega
  go_enter Try.func18, Try.ntmps18
  go_wp2_with fail
  refine (withRoom_any a k c f (10 + s.size) _ (by omega) (by omega) (by omega) _ ra).mono ?_
  rintro e w2 ⟨v, rfl, O1, B1, L1⟩
  have HO : Hid (OwnC w2 w.heap.size v (tab f k)) := O1
  have HB : Hid (Below w.heap.size w w2) := B1
  obtain ⟨a2, c2, rfl, _⟩ := O1.row
  clear O1 B1 L1
  go_wp2_with fail
  refine (withNum_any w.heap.size _ _ (s.size : Int) (by omega) (by omega) (by rw [tab_length]; omega) _ HB.out.size HO.out).mono ?_
  rintro e w3 ⟨v3, rfl, O3, B3⟩
  rw [fold_nat] at O3
  have hlen := enc_len10 (u := s.size * 2) (by omega)
  obtain ⟨l3, e3⟩ : ∃ l3, l3 = tab f k ++ enc (s.size * 2) := ⟨_, rfl⟩
  have hl3 : l3.length ≤ k + 10 := by rw [e3, List.length_append, tab_length]; omega
  have E3 : Hid (l3 ++ sb s = tab f k ++ (enc (s.size * 2) ++ sb s)) := by show _ = _; rw [e3, List.append_assoc]
  rw [← e3] at O3
  clear e3 hlen
  have HB3 : Hid (Below w.heap.size w w3) := HB.out.trans B3
  obtain ⟨v4, w4, hrun, O4, B4⟩ := app_str s O3 HB3.out.size (by omega)
  have H4 : Hid (OwnC w4 w.heap.size v4 (tab f k ++ (enc (s.size * 2) ++ sb s))) := by rw [← E3.out]; exact O4
  have HB4 : Hid (Below w.heap.size w w4) := HB3.out.trans B4
  obtain ⟨a3, c3, rfl, _⟩ := O3.row
  clear O3 B3 HO HB HB3 O4 B4 hl3 E3
  go_wp2_with (at_builtin; refine wpList_append_run rfl _ _ 22 9 rfl _ _ _ rfl rfl hrun ?_)
  go_ret
  exact ⟨_, rfl, H4, HB4⟩
end Go.Proofs.Ytcdkpflhpeflcaa
