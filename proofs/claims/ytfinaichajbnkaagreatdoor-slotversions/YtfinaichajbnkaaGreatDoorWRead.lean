/-
  THE PROGRAM's WRITERS: withRoom, withNum, Num, Text.
-/
import Derived.Test.YtfinaichajbnkaaGreatDoorWFold
namespace Go.Proofs.YtfinaichajbnkaaGreatDoor.Wi
open Go.RowKit
/-- make([]byte, 0, c). -/
theorem make_room (w : World) (c : Nat) (C : Int) (hC : C = (c : Int)) (h : c ≤ 281474976710656) : ∃ w', (Instr.makeSlice 95 (.int .i64 0) (.int .i64 C)).run Tryz.prog w = .ok (.slice (some ⟨w.heap.size, 0, none⟩) 0 c) w' ∧
    OwnC w' w.heap.size (.slice (some ⟨w.heap.size, 0, none⟩) 0 c) [] ∧ Below w.heap.size w w' ∧ w.heap.size < w'.heap.size := by
  subst hC
  obtain ⟨i0, hi, hz0, hz1, hz2⟩ := info_parts info5
  obtain ⟨w', hrun, own, gr⟩ := run_make_own (P := Tryz.prog) w w.heap.size 95 5 i0 (.int .u8 0) 1 under32 hi hz0 hz1 .i64 .i64 c (by rw [hz2]; omega) (by unfold maxLen; omega) (Nat.le_refl _)
  have hb : Below w.heap.size w w' := (Below.refl _ _).grown gr (Nat.le_refl _) (fun k e => by cases e)
  have hlt := (own.lt w.heap.size rfl).2
  refine ⟨w', hrun, .inr ⟨w.heap.size, c, rfl, Nat.le_refl _, hlt, Nat.zero_le _, by unfold maxLen; omega, fun j hj => by simp at hj, fun j hj => ?_⟩, hb, hlt⟩
  rcases own.2 with ⟨h1, _⟩ | ⟨g, cap, cur, h1, _, h3, _, _, h6, _⟩
  · cases h1
  · injection h1 with e1 e2 e3
    injection e1 with e1
    injection e1 with e1 e4 e5
    subst e1 e3
    exact ⟨by rw [cell_of_row w' w.heap.size j cur 5 (0, 0) h3, Array.getElem?_eq_getElem (by omega)]; rfl, by simp [World.frozen?, h3]⟩
set_option maxRecDepth 100000 in
theorem withRoom_any (a : Option Addr) (n c : Nat) (f : Nat → Nat) (k : Nat) (K : Int) (hK : K = (k : Int)) (hk : k ≤ 140737488355328) (hn : n ≤ 140737488355328) (w : World) (ra : RowF w a f n) :
    Calls Tryz.prog 65 #[.slice a n c, .int .i64 K] w fun e w' => ∃ v, e = .returned v ∧ OwnC w' w.heap.size v (tab f n) ∧ Below w.heap.size w w' ∧ w.heap.size < w'.heap.size := by
  subst hK
  go_enter Tryz.func65, Tryz.ntmps65
  go_wp2_with fail
  obtain ⟨w1, hrun, O1, B1, L1⟩ := make_room w (n + k) ((n : Int) + (k : Int)) (by omega) (by omega)
  rw [hrun]
  clear hrun
  have r1 := ra.below B1
  obtain ⟨v2, w2, hrun, O2, B2⟩ := app_row c O1 B1.size r1 (by simp; omega)
  have H2 : Hid (OwnC w2 w.heap.size v2 (tab f n)) := O2
  have HB : Hid (Below w.heap.size w w2) := B1.trans B2
  have HL : Hid (w.heap.size < w2.heap.size) := Nat.lt_of_lt_of_le L1 B2.size
  clear O1 B1 O2 B2 r1 ra L1
  go_wp2_with (at_builtin; refine wpList_append_run rfl _ _ 95 95 rfl _ _ _ rfl rfl hrun ?_)
  go_ret
  exact ⟨_, rfl, H2, HB, HL⟩
set_option maxHeartbeats 1000000 in
set_option maxRecDepth 100000 in
theorem withNum_any (B : Nat) (v : Value) (l : List Nat) (n : Int) (h1 : -9223372036854775808 ≤ n) (h2 : n ≤ 9223372036854775807) (hl : l.length + 10 ≤ 140737488355328) (w : World) (hB : B ≤ w.heap.size) (ho : OwnC w B v l) :
    Calls Tryz.prog 64 #[v, .int .i64 n] w fun e w' => ∃ v', e = .returned v' ∧ OwnC w' B v' (l ++ enc (fold n)) ∧ Below B w w' := by
  have hf := fold_lt h1 h2
  have hlen := enc_len10 hf
  obtain ⟨u0, hu0⟩ : ∃ u, u = fold n := ⟨_, rfl⟩
  have HU : Hid (u0 = fold n) := hu0
  have HO : Hid (OwnC w B v l) := ho
  have HE : Hid (l ++ enc u0 = l ++ enc (fold n)) := by rw [hu0]; rfl
  have HN : Hid ((enc u0).length ≤ 10) := by rw [hu0]; exact hlen
  have hu : u0 < 18446744073709551616 := by rw [hu0]; exact hf
  clear hf hlen ho
  obtain ⟨av, cv, rfl, _⟩ := HO.out.row
  go_enter Tryz.func64, Tryz.ntmps64
  go_wp2_with fail
  refine (folded_any n h1 h2 _).mono ?_
  rintro e w2 ⟨rfl, rfl⟩
  rw [← hu0]
  clear hu0
  go_wp2_with fail
  go_loopw [0, 5] (fun x y wr => ∃ (m : List Nat) (u : Nat), y = .int .u64 (u : Int) ∧ u < 18446744073709551616 ∧ (∃ a c, x = .slice a m.length c) ∧ Hid (OwnC wr B x m) ∧ Hid (m ++ enc u = l ++ enc (fold n)) ∧ Hid (m.length + (enc u).length ≤ 140737488355328) ∧ Hid (Below B w wr)) (fun _ y _ => (intOf y).toNat)
  case atStart => exact ⟨l, u0, rfl, hu, ⟨_, _, rfl⟩, HO, HE, by have := HN.out; show _ ≤ _; omega, Below.refl _ _⟩
  case round =>
    clear HO HE HN hu HU
    obtain ⟨m, u, rfl, hu, ⟨a, c, rfl⟩, HO, HE, HN, HB⟩ := hrel
    have hBr : B ≤ wr.heap.size := Nat.le_trans hB HB.out.size
    by_cases hlt : u < 128
    · obtain ⟨v2, w2, hrun, O2, B2⟩ := app_one u HO.out hBr (by have := HN.out; have := enc_ne u; omega)
      have H2 : Hid (OwnC w2 B v2 (l ++ enc (fold n))) := by rw [← HE.out, enc_lo hlt]; exact O2
      have HB2 : Hid (Below B w w2) := HB.out.trans B2
      have i1 : decide ((128 : Int) ≤ (u : Int)) = false := by simp; omega
      have i2 : (u : Int) % 256 = (u : Int) := by omega
      clear HO HB O2 B2 HE HN
      go_wp2_with (at_builtin; refine wpList_append_run rfl _ _ 95 95 rfl _ _ _ rfl rfl hrun ?_)
      go_ret
      exact ⟨_, rfl, H2, HB2⟩
    · obtain ⟨x, hx⟩ : ∃ x, x = u % 128 + 128 := ⟨_, rfl⟩
      have hor : bits BinOp.or IntKind.u8 ((u : Int) % 256) 128 = ((x : Nat) : Int) := by
        have := or128 (u % 256) (by omega)
        rw [show u % 256 % 128 + 128 = x by omega] at this
        rw [← this]; congr 1
      obtain ⟨v2, w2, hrun, O2, B2⟩ := app_one x HO.out hBr (by have := HN.out; have := enc_ne u; omega)
      have e1 : enc u = x :: enc (u / 128) := by rw [enc_hi hlt, hx]
      have HE2 : Hid ((m ++ [x]) ++ enc (u / 128) = l ++ enc (fold n)) := by show _ = _; rw [← HE.out, e1]; simp
      have HN2 : Hid ((m ++ [x]).length + (enc (u / 128)).length ≤ 140737488355328) := by have := HN.out; rw [e1] at this; show _ ≤ _; simp at this ⊢; omega
      obtain ⟨m2, hm2⟩ : ∃ m2, m2 = m ++ [x] := ⟨_, rfl⟩
      rw [← hm2] at O2 HE2 HN2
      have H2 : Hid (OwnC w2 B v2 m2) := O2
      have HB2 : Hid (Below B w w2) := HB.out.trans B2
      obtain ⟨a2, c2, rfl, _⟩ := O2.row
      have i1 : (128 : Int) ≤ (u : Int) := by omega
      have hlt2 : 128 ≤ u := by omega
      clear HO HB O2 B2 HE HN hx e1 hm2
      go_wp2_with (at_builtin; refine wpList_append_run rfl _ _ 95 95 rfl _ _ _ rfl rfl hrun ?_)
      go_roundw
      case rel => exact ⟨m2, u / 128, by go_num, by omega, ⟨a2, c2, rfl⟩, H2, HE2, HN2, HB2⟩
      case measure => simp [intOf]; omega
set_option maxRecDepth 100000 in
theorem num_any (a : Option Addr) (k c : Nat) (f : Nat → Nat) (n : Int) (h1 : -9223372036854775808 ≤ n) (h2 : n ≤ 9223372036854775807) (hk : k + 10 ≤ 140737488355328) (w : World) (ra : RowF w a f k) :
    Calls Tryz.prog 46 #[.slice a k c, .int .i64 n] w fun e w' => ∃ v, e = .returned v ∧ OwnC w' w.heap.size v (tab f k ++ enc (fold n)) ∧ Below w.heap.size w w' := by
  go_enter Tryz.func46, Tryz.ntmps46
  go_wp2_with fail
  refine (withRoom_any a k c f 10 _ rfl (by omega) (by omega) _ ra).mono ?_
  rintro e w2 ⟨v, rfl, O1, B1, L1⟩
  have HO : Hid (OwnC w2 w.heap.size v (tab f k)) := O1
  have HB : Hid (Below w.heap.size w w2) := B1
  obtain ⟨a2, c2, rfl, _⟩ := O1.row
  clear O1 B1 L1
  go_wp2_with fail
  refine (withNum_any w.heap.size _ _ n h1 h2 (by rw [tab_length]; exact hk) _ HB.out.size HO.out).mono ?_
  rintro e w3 ⟨v3, rfl, O3, B3⟩
  have H3 : Hid (OwnC w3 w.heap.size v3 (tab f k ++ enc (fold n))) := O3
  have HB3 : Hid (Below w.heap.size w w3) := HB.out.trans B3
  clear O3 B3 HO HB
  go_wp2_with fail
  go_ret
  exact ⟨_, rfl, H3, HB3⟩
set_option maxRecDepth 100000 in
theorem text_any (a : Option Addr) (k c : Nat) (f : Nat → Nat) (s : ByteArray) (hk : k + 10 + s.size ≤ 140737488355328) (w : World) (ra : RowF w a f k) :
    Calls Tryz.prog 57 #[.slice a k c, .string s] w fun e w' => ∃ v, e = .returned v ∧ OwnC w' w.heap.size v (tab f k ++ (enc (s.size * 2) ++ sb s)) ∧ Below w.heap.size w w' := by
  have hs : s.size ≤ 140737488355328 := by omega
  go_enter Tryz.func57, Tryz.ntmps57
  go_wp2_with fail
  refine (withRoom_any a k c f (10 + s.size) _ (by omega) (by omega) (by omega) _ ra).mono ?_
  rintro e w2 ⟨v, rfl, O1, B1, L1⟩
  have HO : Hid (OwnC w2 w.heap.size v (tab f k)) := O1
  have HB : Hid (Below w.heap.size w w2) := B1
  obtain ⟨a2, c2, rfl, _⟩ := O1.row
  clear O1 B1 L1
  go_wp2_with fail
  refine (withNum_any w.heap.size _ _ (s.size : Int) (by omega) (by omega) (by rw [tab_length]; omega) _ HB.out.size HO.out).mono ?_
  rintro e w3 ⟨v3, rfl, O3, B3⟩
  rw [fold_nat] at O3
  have hlen := enc_len10 (u := s.size * 2) (by omega)
  obtain ⟨l3, e3⟩ : ∃ l3, l3 = tab f k ++ enc (s.size * 2) := ⟨_, rfl⟩
  have hl3 : l3.length ≤ k + 10 := by rw [e3, List.length_append, tab_length]; omega
  have E3 : Hid (l3 ++ sb s = tab f k ++ (enc (s.size * 2) ++ sb s)) := by show _ = _; rw [e3, List.append_assoc]
  rw [← e3] at O3
  clear e3 hlen
  have HB3 : Hid (Below w.heap.size w w3) := HB.out.trans B3
  obtain ⟨v4, w4, hrun, O4, B4⟩ := app_str s O3 HB3.out.size (by omega)
  have H4 : Hid (OwnC w4 w.heap.size v4 (tab f k ++ (enc (s.size * 2) ++ sb s))) := by rw [← E3.out]; exact O4
  have HB4 : Hid (Below w.heap.size w w4) := HB3.out.trans B4
  obtain ⟨a3, c3, rfl, _⟩ := O3.row
  clear O3 B3 HO HB HB3 O4 B4 hl3 E3
  go_wp2_with (at_builtin; refine wpList_append_run rfl _ _ 95 9 rfl _ _ _ rfl rfl hrun ?_)
  go_ret
  exact ⟨_, rfl, H4, HB4⟩
end Go.Proofs.YtfinaichajbnkaaGreatDoor.Wi


namespace Go.Proofs.YtfinaichajbnkaaGreatDoor.Wi
open Go.RowKit
/-- append([]byte{}, b...). -/
theorem copy_row {w : World} {a : Option Addr} {f : Nat → Nat} {n : Nat} (c : Nat) (hr : RowF w a f n) (hb : n ≤ 140737488355328) :
    ∃ v' w', (Builtin.append_ #[95, 95] 95 #[.slice (some ⟨w.heap.size, 0, none⟩) 0 0, .slice a n c]).run Tryz.prog (w.alloc (.cells #[] 5)) = .ok v' w' ∧ OwnC w' w.heap.size v' (tab f n) ∧ Below w.heap.size w w' := by
  have hb1 : Below w.heap.size w (w.alloc (.cells #[] 5)) := (Below.refl _ _).alloc (Nat.le_refl _) _
  have o1 : OwnC (w.alloc (.cells #[] 5)) w.heap.size (.slice (some ⟨w.heap.size, 0, none⟩) 0 0) [] :=
    .inr ⟨w.heap.size, 0, rfl, Nat.le_refl _, by simp, Nat.le_refl _, by unfold maxLen; omega, fun j hj => by simp at hj, fun j hj => by omega⟩
  obtain ⟨v', w', h1, h2, h3⟩ := app_row c o1 (by rw [World.size_alloc]; omega) (hr.below hb1) (by simp; exact hb)
  exact ⟨v', w', h1, h2, hb1.trans h3⟩
theorem eql_some (ad : Addr) (n c : Nat) (w : World) : (binOp .eql 95 (.slice (some ad) n c) (.slice none 0 0)).run Tryz.prog w = .ok (.bool false) w := by kernel_rfl
theorem eql_none (n c : Nat) (w : World) : (binOp .eql 95 (.slice none n c) (.slice none 0 0)).run Tryz.prog w = .ok (.bool true) w := by kernel_rfl
set_option maxRecDepth 100000 in
theorem clone_any (a : Option Addr) (n c : Nat) (f : Nat → Nat) (hn : n ≤ 140737488355328) (w : World) (ra : RowF w a f n) :
    Calls Tryz.prog 73 #[.slice a n c] w fun e w' => ∃ v, e = .returned v ∧ OwnC w' w.heap.size v (tab f n) ∧ Below w.heap.size w w' := by
  cases a with
  | none =>
    have h0 : n = 0 := by
      rcases ra with h | ⟨p, off, h, _⟩
      · exact h
      · cases h
    subst h0
    have e1 := eql_none 0 c
    go_enter Tryz.func73, Tryz.ntmps73
    go_wp2_with fail
    go_ret
    exact ⟨_, rfl, .inl ⟨rfl, rfl⟩, Below.refl _ _⟩
  | some ad =>
    obtain ⟨v1, w1, hrun, O1, B1⟩ := copy_row c ra hn
    have H1 : Hid (OwnC w1 w.heap.size v1 (tab f n)) := O1
    have HB : Hid (Below w.heap.size w w1) := B1
    obtain ⟨a1, c1, rfl, _⟩ := O1.row
    have e1 := eql_some ad n c
    clear O1 B1 ra
    go_enter Tryz.func73, Tryz.ntmps73
    go_wp2_with (at_builtin; refine wpList_append_run rfl _ _ 95 95 rfl _ _ _ rfl rfl hrun ?_)
    go_ret
    exact ⟨_, rfl, H1, HB⟩
end Go.Proofs.YtfinaichajbnkaaGreatDoor.Wi


namespace Go.Proofs.YtfinaichajbnkaaGreatDoor.Wi
open Go.RowKit

/-- A reader lies in block R: its bytes, its place, its error. -/
structure IsRd (w : World) (R : Nat) (f : Nat → Nat) (len at' wr : Nat) : Prop where
  bs : ∃ a c, w.cell? ⟨R, 0, none⟩ = some (.slice a len c) ∧ len ≤ c ∧ RowF w a f len
  pl : w.cell? ⟨R, 1, none⟩ = some (.int .i64 ((at' : Nat) : Int))
  er : w.cell? ⟨R, 2, none⟩ = some (.int .i64 ((wr : Nat) : Int))
  f1 : w.frozen? ⟨R, 1, none⟩ = false
  f2 : w.frozen? ⟨R, 2, none⟩ = false
  hat : at' ≤ len
  lim : len ≤ 140737488355328
  fb : ∀ i, f i < 256
/-- What stands at the reader's place: the code, how many bytes, the error. -/
def pk (f : Nat → Nat) (len at' wr : Nat) : Nat × Nat × Nat := if wr = 0 then scan (fun i => f (at' + i)) (len - at') 0 0 else (0, 0, wr)
theorem pk_wr {f : Nat → Nat} {len at' wr : Nat} (h : wr ≠ 0) : pk f len at' wr = (0, 0, wr) := by unfold pk; rw [if_neg h]
theorem pk_0 (f : Nat → Nat) (len at' : Nat) : pk f len at' 0 = scan (fun i => f (at' + i)) (len - at') 0 0 := by unfold pk; rw [if_pos rfl]
theorem badB_true {i c : Nat} (h : badB i c = true) : (0 < i ∧ c = 0) ∨ (i = 9 ∧ 1 < c) := by simpa [badB] using h

theorem pk_ret {q : Nat × Nat × Nat} {c s e : Nat} {X : Int} (h : q = (c, s, e)) (hX : unf c = X) : Ending.returned (.tuple #[.int .i64 X, .int .i64 ((s : Nat) : Int), .int .i64 ((e : Nat) : Int)]) = Ending.returned (.tuple #[.int .i64 (unf q.1), .int .i64 ((q.2.1 : Nat) : Int), .int .i64 ((q.2.2 : Nat) : Int)]) := by subst h hX; rfl
set_option maxHeartbeats 1000000 in
set_option maxRecDepth 100000 in
theorem peek_any (R len at' wr : Nat) (f : Nat → Nat) (w : World) (h : IsRd w R f len at' wr) :
    Calls Tryz.prog 74 #[.pointer (some ⟨R, 0, none⟩)] w fun e w' => e = .returned (.tuple #[.int .i64 (unf (pk f len at' wr).1), .int .i64 (((pk f len at' wr).2.1 : Nat) : Int), .int .i64 (((pk f len at' wr).2.2 : Nat) : Int)]) ∧ ∃ n, w' = w.drewN n := by
  obtain ⟨⟨a, c, hb, hlc, ra⟩, hp, he, f1, f2, hat, lim, fb⟩ := h
  by_cases hw : wr = 0
  · subst hw
    by_cases hlt : at' < len
    · rcases ra with h0 | ⟨p, off, rfl, hc⟩
      · exfalso; omega
      have e1 : (at' : Int) ≤ (len : Int) := by omega
      have HS : Hid (pk f len at' 0 = scan (fun i => f (at' + i)) (len - at' - 0) 0 0) := pk_0 f len at'
      have HC : Hid (∀ i, i < len → w.cell? ⟨p, off + i, none⟩ = some (.int .u8 ((f i : Nat) : Int))) := hc
      have HF : Hid (∀ i, f i < 256) := fb
      obtain ⟨m, hm⟩ : ∃ m, m = len - at' := ⟨_, rfl⟩
      have HM : Hid (m = len - at') := hm
      clear hc fb
      go_enter Tryz.func74, Tryz.ntmps74
      go_wp2_with fail
      go_quiet (fail)
      rw [← hm]
      rw [← hm] at HS
      clear hm
      go_wp2_with fail
      go_loopw [5, 27] (fun x y wr => ∃ (acc i d : Nat), x = .int .u64 (acc : Int) ∧ y = .int .i64 (i : Int) ∧ i ≤ 9 ∧ i ≤ m ∧ Hid (acc < 2 ^ (7 * i)) ∧ Hid (pk f len at' 0 = scan (fun i => f (at' + i)) (m - i) i acc) ∧ Hid (wr = w.drewN d)) (fun _ y _ => m - (intOf y).toNat)
      case atStart => exact ⟨0, 0, nq, rfl, rfl, by omega, by omega, by show _ < _; decide, HS, rfl⟩
      case round =>
        clear HS
        obtain ⟨acc, i, d, rfl, rfl, hi9, him, HA, HS, HW⟩ := hrel
        by_cases hlt2 : i < m
        · have hi1 : (i : Int) < (m : Int) := by omega
          obtain ⟨v, hv⟩ : ∃ v, v = f (at' + i) := ⟨_, rfl⟩
          have c1 : wr.cell? ⟨p, off + at' + i, none⟩ = some (.int .u8 ((v : Nat) : Int)) := by
            rw [HW.out, Nat.add_assoc, hv]; exact HC.out (at' + i) (by have := HM.out; omega)
          have hv8 : v < 256 := by rw [hv]; exact HF.out _
          obtain ⟨r, hr⟩ : ∃ r, m - i = r + 1 := ⟨m - i - 1, by omega⟩
          by_cases hbad : badB i v = true
          · have HR : Hid (pk f len at' 0 = (0, 0, 4)) := by show _ = _; rw [HS.out, hr]; exact scan_bad (f := fun i => f (at' + i)) (by rw [← hv]; exact hbad)
            have hb := badB_true hbad
            clear hr hv hbad HS
            rcases hb with ⟨b1, b2⟩ | ⟨b1, b2⟩
            · subst b2
              have j1 : (0 : Int) < (i : Int) := by omega
              go_wp2_with fail
              exact bodyPost_ret (v := .tuple #[.int .i64 0, .int .i64 0, .int .i64 4]) (by simp [results, Tryz.results74, go_sem]) rfl ⟨pk_ret (c := 0) (s := 0) (e := 4) HR.out rfl, d, HW.out⟩
            · subst b1
              have j1 : ((v : Int) == 0) = false := by simp; omega
              have j2 : (1 : Int) < (v : Int) := by omega
              go_wp2_with fail
              exact bodyPost_ret (v := .tuple #[.int .i64 0, .int .i64 0, .int .i64 4]) (by simp [results, Tryz.results74, go_sem]) rfl ⟨pk_ret (c := 0) (s := 0) (e := 4) HR.out rfl, d, HW.out⟩
          · have hbad : badB i v = false := by simpa using hbad
            have an := andNot128 v hv8
            obtain ⟨q, hq⟩ : ∃ q, q = v % 128 := ⟨_, rfl⟩
            rw [← hq] at an
            have hq2 : q < 128 := by omega
            obtain ⟨N, hN⟩ : ∃ N, N = acc + q * 2 ^ (7 * i) := ⟨_, rfl⟩
            have hNlt : N < 18446744073709551616 ∧ N < 2 ^ (7 * (i + 1)) := by
              have ha := HA.out
              have e3 : q * 2 ^ (7 * i) ≤ 127 * 2 ^ (7 * i) := Nat.mul_le_mul_right _ (by omega)
              have e4 : 2 ^ (7 * (i + 1)) = 128 * 2 ^ (7 * i) := by rw [show 7 * (i + 1) = 7 + 7 * i by omega, Nat.pow_add]
              refine ⟨?_, by omega⟩
              by_cases h9 : i = 9
              · have hv1 := badB_9 hbad h9
                have : q = 1 := by omega
                rw [h9] at ha
                rw [hN, this, h9]
                simp at ha ⊢; omega
              · have e : 2 ^ (7 * i) ≤ 2 ^ 56 := Nat.pow_le_pow_right (by decide) (by omega)
                have e5 : (2 : Nat) ^ 56 = 72057594037927936 := by decide
                omega
            have hor := orsh acc q i HA.out (by omega)
            rw [← hN] at hor
            have hz : IntKind.u64.wrap ((q : Int) * 2 ^ (7 * i)) = ((q * 2 ^ (7 * i) : Nat) : Int) := by
              rw [IntKind.wrap_u64]
              have e1 : (q : Int) * 2 ^ (7 * i) = ((q * 2 ^ (7 * i) : Nat) : Int) := by rw [Int.natCast_mul, Int.natCast_pow]; rfl
              rw [e1]; omega
            obtain ⟨z, hzz⟩ : ∃ z, z = q * 2 ^ (7 * i) := ⟨_, rfl⟩
            rw [← hzz] at hor hz
            have hwq : IntKind.u64.wrap (q : Int) = (q : Int) := by rw [IntKind.wrap_u64]; omega
            have HNN : Hid (N = acc + q * 2 ^ (7 * i)) := hN
            have HNlt : Hid (N < 18446744073709551616 ∧ N < 2 ^ (7 * (i + 1))) := hNlt
            have HV : Hid (v = f (at' + i)) := hv
            have HQ : Hid (q = v % 128) := hq
            have HR : Hid (m - i = r + 1) := hr
            have HBD : Hid (badB i v = false) := hbad
            have i7 : 7 * (i : Int) ≤ 63 := by omega
            clear hzz hN hNlt hv hq hr hbad
            have hcase : (i = 0) ∨ (i = 9) ∨ (0 < i ∧ i < 9) := by omega
            rcases hcase with hi0 | hi0 | ⟨hi0, hi1'⟩
            case' inl =>
              have j1 : decide (0 < i) = false := by simp; omega
              have j3 : ((i : Int) == 9) = false := by simp; omega
              clear hi0
            case' inr.inl =>
              have hv1 := badB_9 HBD.out hi0
              have j1 : (0 : Int) < (i : Int) := by omega
              have j2 : ((v : Int) == 0) = false := by simp; omega
              have j3 : ((i : Int) == 9) = true := by simp; omega
              have j4 : decide ((1 : Int) < (v : Int)) = false := by simp; omega
              clear hi0 hv1
            case' inr.inr =>
              have j1 : (0 : Int) < (i : Int) := by omega
              have j2 : ((v : Int) == 0) = false := by have := badB_pos HBD.out (by omega); simp; omega
              have j3 : ((i : Int) == 9) = false := by simp; omega
              clear hi0 hi1'
            all_goals
              by_cases h128 : v < 128
              · have k1 : (v : Int) < 128 := by omega
                go_wp2_with fail
                refine (unfolded_any N HNlt.out.1 _).mono ?_
                rintro e w2 ⟨rfl, rfl⟩
                go_wp2_with fail
                refine bodyPost_ret (v := .tuple #[.int .i64 (unf N), .int .i64 ((i : Int) + 1), .int .i64 0]) (by simp [results, Tryz.results74, go_sem]) rfl ⟨?_, d, HW.out⟩
                refine pk_ret (c := N) (s := i + 1) (e := 0) ?_ rfl
                rw [HS.out, HR.out, scan_end (f := fun i => f (at' + i)) (by rw [← HV.out]; exact HBD.out) (by rw [← HV.out]; exact h128), ← HV.out, HNN.out, HQ.out, Nat.mod_eq_of_lt h128]
              · have k1 : decide ((v : Int) < 128) = false := by simp; omega
                go_wp2_with fail
                refine ⟨⟨N, i + 1, d, rfl, by go_num, ?_, by omega, HNlt.out.2, ?_, HW⟩, by simp [intOf]; omega⟩
                · by_cases e9 : i = 9
                  · have := badB_9 HBD.out e9; omega
                  · omega
                · show _ = _
                  rw [HS.out, HR.out, scan_on (f := fun i => f (at' + i)) (by rw [← HV.out]; exact HBD.out) (by rw [← HV.out]; exact h128), ← HV.out, HNN.out, HQ.out, show m - (i + 1) = r by have := HR.out; omega, show v % 128 = v - 128 by omega]
        · have i2 : decide ((i : Int) < (m : Int)) = false := by simp; omega
          have HR : Hid (pk f len at' 0 = (0, 0, 3)) := by show _ = _; rw [HS.out, show m - i = 0 by omega]; rfl
          clear HS
          go_wp2_with fail
          exact bodyPost_ret (v := .tuple #[.int .i64 0, .int .i64 0, .int .i64 3]) (by simp [results, Tryz.results74, go_sem]) rfl ⟨pk_ret (c := 0) (s := 0) (e := 3) HR.out rfl, d, HW.out⟩
    · have hle : at' = len := by omega
      subst hle
      have HR : Hid (pk f at' at' 0 = (0, 0, 3)) := by show _ = _; rw [pk_0, Nat.sub_self]; rfl
      have e1 := slice_lo a at' c at' (Nat.le_refl _)
      rw [Nat.sub_self] at e1
      obtain ⟨sa, hsa⟩ : ∃ sa, sa = sl a at' c := ⟨_, rfl⟩
      rw [← hsa] at e1
      clear hsa ra fb
      go_enter Tryz.func74, Tryz.ntmps74
      go_wp2_with fail
      go_quiet (fail)
      go_wp2_with fail
      go_loopw [5, 27] (fun x y wr => y = .int .i64 0 ∧ Hid (wr = w.drewN nq)) (fun _ y _ => 0)
      case atStart => exact ⟨rfl, rfl⟩
      case round =>
        obtain ⟨rfl, HW⟩ := hrel
        go_wp2_with fail
        exact bodyPost_ret (v := .tuple #[.int .i64 0, .int .i64 0, .int .i64 3]) (by simp [results, Tryz.results74, go_sem]) rfl ⟨pk_ret (c := 0) (s := 0) (e := 3) HR.out rfl, nq, HW.out⟩
  · have hw1 : ((wr : Int) != 0) = true := by simp; omega
    have HR : Hid (pk f len at' wr = (0, 0, wr)) := pk_wr hw
    go_enter Tryz.func74, Tryz.ntmps74
    go_wp2_with fail
    go_quiet (fail)
    go_wp2_with fail
    exact bodyPost_ret (v := .tuple #[.int .i64 0, .int .i64 0, .int .i64 (wr : Int)]) (by simp [results, Tryz.results74, go_sem]) rfl ⟨pk_ret (c := 0) (s := 0) (e := wr) HR.out rfl, nq, rfl⟩
end Go.Proofs.YtfinaichajbnkaaGreatDoor.Wi


namespace Go.Proofs.YtfinaichajbnkaaGreatDoor.Wi
open Go.RowKit

/-- Nothing but the second and third cell of block R has turned. -/
structure Turn (R : Nat) (w w' : World) : Prop where
  os : w'.os = w.os
  tape : w'.tape = w.tape
  output : w'.output = w.output
  size : w'.heap.size = w.heap.size
  block : ∀ b, b ≠ R → w'.heap[b]? = w.heap[b]?
  cells : ∀ x : Addr, x ≠ ⟨R, 1, none⟩ → x ≠ ⟨R, 2, none⟩ → w'.cell? x = w.cell? x
theorem Turn.refl (R : Nat) (w : World) : Turn R w w := ⟨rfl, rfl, rfl, rfl, fun _ _ => rfl, fun _ _ _ => rfl⟩
theorem Turn.trans {R : Nat} {a b c : World} (h : Turn R a b) (k : Turn R b c) : Turn R a c :=
  ⟨k.os.trans h.os, k.tape.trans h.tape, k.output.trans h.output, k.size.trans h.size, fun i hi => (k.block i hi).trans (h.block i hi), fun x h1 h2 => (k.cells x h1 h2).trans (h.cells x h1 h2)⟩
theorem Turn.drewN (R : Nat) (w : World) (n : Nat) : Turn R w (w.drewN n) := by
  have h := below_drewN (B := w.heap.size) (Below.refl _ w) n
  have e : (w.drewN n).heap = w.heap := by simp
  exact ⟨h.os, h.tape, h.output, by rw [e], fun b _ => by rw [e], fun x _ _ => World.cell?_of_block (by rw [e])⟩
theorem Turn.set (R o : Nat) (w : World) (v : Value) (ho : o = 1 ∨ o = 2 := by first | exact .inl rfl | exact .inr rfl) : Turn R w (w.setCell ⟨R, o, none⟩ v) :=
  ⟨rfl, rfl, rfl, by simp [World.setCell], fun b hb => Below.heap_setCell _ _ _ _ hb, fun x h1 h2 => World.cell?_setCell_other _ _ _ _ (fun e => by
    rcases ho with rfl | rfl
    · exact h1 e.symm
    · exact h2 e.symm)⟩
theorem Turn.below {R B : Nat} {w0 w w' : World} (h : Turn R w w') (hb : Below B w0 w) (hB : B ≤ R) : Below B w0 w' :=
  hb.trans ⟨h.os, h.tape, h.output, by rw [h.size]; exact Nat.le_refl _, fun k hk => h.block k (by omega)⟩
theorem Turn.cell {R b o : Nat} {w w' : World} (h : Turn R w w') (hb : b ≠ R) : w'.cell? ⟨b, o, none⟩ = w.cell? ⟨b, o, none⟩ :=
  World.cell?_of_block (a := ⟨b, o, none⟩) (h.block b hb)
theorem Turn.fz {R b o : Nat} {w w' : World} (h : Turn R w w') (hb : b ≠ R) : w'.frozen? ⟨b, o, none⟩ = w.frozen? ⟨b, o, none⟩ :=
  World.frozen?_of_block (a := ⟨b, o, none⟩) (h.block b hb)

theorem RowF.set {w : World} {a : Option Addr} {f : Nat → Nat} {n R o : Nat} {u v : Value} (h : RowF w a f n) (hc : w.cell? ⟨R, o, none⟩ = some u) (hu : ∀ x, u ≠ .int .u8 x) : RowF (w.setCell ⟨R, o, none⟩ v) a f n := by
  rcases h with h | ⟨p, off, e, hr⟩
  · exact .inl h
  · refine .inr ⟨p, off, e, fun i hi => ?_⟩
    rw [World.cell?_setCell_other _ _ _ _ (fun e2 => by
      have := hr i hi
      rw [← e2, hc] at this
      injection this with this
      exact hu _ this)]
    exact hr i hi
theorem IsRd.setAt {w : World} {R len at' wr k : Nat} {f : Nat → Nat} (h : IsRd w R f len at' wr) (hk : k ≤ len) : IsRd (w.setCell ⟨R, 1, none⟩ (.int .i64 ((k : Nat) : Int))) R f len k wr := by
  obtain ⟨⟨a, c, hb, hlc, ra⟩, hp, he, f1, f2, hat, lim, fb⟩ := h
  refine ⟨⟨a, c, ?_, hlc, ra.set hp (fun x e => by cases e)⟩, World.cell?_setCell_same _ _ _ hp, ?_, by rw [World.frozen?_setCell]; exact f1, by rw [World.frozen?_setCell]; exact f2, hk, lim, fb⟩
  · rw [World.cell?_setCell_other _ _ _ _ (fun e => by injection e with _ e _; cases e)]; exact hb
  · rw [World.cell?_setCell_other _ _ _ _ (fun e => by injection e with _ e _; cases e)]; exact he
theorem IsRd.setWr {w : World} {R len at' wr k : Nat} {f : Nat → Nat} (h : IsRd w R f len at' wr) : IsRd (w.setCell ⟨R, 2, none⟩ (.int .i64 ((k : Nat) : Int))) R f len at' k := by
  obtain ⟨⟨a, c, hb, hlc, ra⟩, hp, he, f1, f2, hat, lim, fb⟩ := h
  refine ⟨⟨a, c, ?_, hlc, ra.set he (fun x e => by cases e)⟩, ?_, World.cell?_setCell_same _ _ _ he, by rw [World.frozen?_setCell]; exact f1, by rw [World.frozen?_setCell]; exact f2, hat, lim, fb⟩
  · rw [World.cell?_setCell_other _ _ _ _ (fun e => by injection e with _ e _; cases e)]; exact hb
  · rw [World.cell?_setCell_other _ _ _ _ (fun e => by injection e with _ e _; cases e)]; exact hp
theorem IsRd.up {w w' : World} {R len at' wr : Nat} {f : Nat → Nat} (h : IsRd w R f len at' wr) (hb : Below w.heap.size w w') : IsRd w' R f len at' wr := by
  obtain ⟨⟨a, c, h0, hlc, ra⟩, hp, he, f1, f2, hat, lim, fb⟩ := h
  have e := hb.block R (World.block_lt_of_cell? _ _ hp)
  exact ⟨⟨a, c, cell_up hb h0, hlc, ra.below hb⟩, cell_up hb hp, cell_up hb he, (World.frozen?_of_block (a := ⟨R, 1, none⟩) e).trans f1, (World.frozen?_of_block (a := ⟨R, 2, none⟩) e).trans f2, hat, lim, fb⟩
theorem IsRd.drewN {w : World} {R len at' wr : Nat} {f : Nat → Nat} (h : IsRd w R f len at' wr) (n : Nat) : IsRd (w.drewN n) R f len at' wr := h.up (below_drewN (Below.refl _ _) n)
theorem RowF.turn {w w' : World} {a : Option Addr} {f : Nat → Nat} {n R : Nat} (h : RowF w a f n) (ht : Turn R w w') (hR : ∀ p off, a = some ⟨p, off, none⟩ → 0 < n → p ≠ R) : RowF w' a f n := by
  by_cases h0 : n = 0
  · exact .inl h0
  rcases h with h | ⟨p, off, e, hr⟩
  · exact absurd h h0
  · exact .inr ⟨p, off, e, fun i hi => by rw [ht.cell (hR p off e (by omega))]; exact hr i hi⟩

/-- The number, the place, the error behind Num. -/
theorem pk_cases (f : Nat → Nat) (len at' wr : Nat) (hat : at' ≤ len) (fb : ∀ i, f i < 256) : (∃ e, pk f len at' wr = (0, 0, e) ∧ e ≠ 0 ∧ (wr ≠ 0 → e = wr)) ∨ ∃ c s, pk f len at' wr = (c, s, 0) ∧ wr = 0 ∧ 0 < s ∧ at' + s ≤ len ∧ c < 18446744073709551616 := by
  by_cases hw : wr = 0
  · subst hw
    rw [pk_0]
    rcases scan_kind (fun i => f (at' + i)) (len - at') 0 0 with ⟨e, h1, h2⟩ | ⟨c, s, h1, h2, h3⟩
    · exact .inl ⟨e, h1, by omega, fun h => absurd rfl h⟩
    · have := scan_lt (fun i => f (at' + i)) (fun i => fb _) (len - at') 0 0 c s (by omega) (by decide) h1
      exact .inr ⟨c, s, h1, rfl, h2, by omega, this.1⟩
  · exact .inl ⟨wr, pk_wr hw, hw, fun _ => rfl⟩

set_option maxRecDepth 100000 in
theorem read_any (a : Option Addr) (n c : Nat) (f : Nat → Nat) (fb : ∀ i, f i < 256) (hn : n ≤ 140737488355328) (w : World) (ra : RowF w a f n) :
    Calls Tryz.prog 50 #[.slice a n c] w fun e w' => ∃ R, e = .returned (.pointer (some ⟨R, 0, none⟩)) ∧ w.heap.size ≤ R ∧ IsRd w' R f n 0 0 ∧ Below w.heap.size w w' := by
  go_enter Tryz.func50, Tryz.ntmps50
  go_wp2_with fail
  refine (clone_any a n c f hn _ ra).mono ?_
  rintro e w2 ⟨v, rfl, O1, B1⟩
  obtain ⟨a1, c1, rfl, hc1, r1⟩ := O1.row
  rw [tab_length] at r1 hc1
  have r2 : RowF w2 a1 f n := by
    rcases r1 with h | ⟨p, off, e, hr⟩
    · exact .inl h
    · exact .inr ⟨p, off, e, fun i hi => by rw [hr i hi, lf_tab hi]⟩
  rw [tab_length]
  have HB : Hid (Below w.heap.size w w2) := B1
  have H2 : Hid (RowF w2 a1 f n) := r2
  have HF : Hid (∀ i, f i < 256) := fb
  clear O1 B1 r1 r2 ra fb
  go_wp2_with fail
  go_ret
  have b3 : Below w2.heap.size w2 (w2.alloc (.cells #[.slice a1 n c1, .int .i64 0, .int .i64 0] 127)) := (Below.refl _ _).alloc (Nat.le_refl _) _
  refine ⟨w2.heap.size, rfl, HB.out.size, ⟨⟨a1, c1, by rw [World.cell?_alloc_new]; rfl, hc1, H2.out.below b3⟩, by rw [World.cell?_alloc_new]; rfl, by rw [World.cell?_alloc_new]; rfl, World.frozen?_alloc_new _ _ _ _, World.frozen?_alloc_new _ _ _ _, Nat.zero_le _, hn, HF.out⟩, HB.out.trans (b3.mono HB.out.size)⟩
set_option maxHeartbeats 1000000 in
set_option maxRecDepth 100000 in
theorem rdnum_any (R len at' wr : Nat) (f : Nat → Nat) (w : World) (h : IsRd w R f len at' wr) :
    Calls Tryz.prog 51 #[.pointer (some ⟨R, 0, none⟩)] w fun e w' => e = .returned (.int .i64 (unf (pk f len at' wr).1)) ∧ IsRd w' R f len (at' + (pk f len at' wr).2.1) (pk f len at' wr).2.2 ∧ Turn R w w' := by
  go_enter Tryz.func51, Tryz.ntmps51
  go_wp2_with fail
  refine (peek_any R len at' wr f _ h).mono ?_
  rintro e w2 ⟨rfl, n, rfl⟩
  have HI : Hid (IsRd (w.drewN n) R f len at' wr) := h.drewN n
  have hat := h.hat
  have lim := h.lim
  rcases pk_cases f len at' wr h.hat h.fb with ⟨e, h1, h2, h3⟩ | ⟨c, s, h1, rfl, h2, h3, h4⟩
  · have H1 : Hid (pk f len at' wr = (0, 0, e)) := h1
    rw [h1]
    have j1 : ((e : Int) != 0) = true := by simp; omega
    have c2 := HI.out.er
    have z2 := HI.out.f2
    clear h h1 h3
    go_wp2_with fail
    go_ret
    rw [H1.out]
    exact ⟨ret_int unf_zero.symm, HI.out.setWr, (Turn.drewN R w n).trans (Turn.set R 2 _ _)⟩
  · have H1 : Hid (pk f len at' 0 = (c, s, 0)) := h1
    rw [h1]
    have c1 := HI.out.pl
    have z1 := HI.out.f1
    clear h h1
    go_wp2_with fail
    go_ret
    rw [H1.out]
    exact ⟨rfl, HI.out.setAt h3, (Turn.drewN R w n).trans (Turn.set R 1 _ _)⟩

/-- What Text tells, the place and the error behind it. -/
def txt (f : Nat → Nat) (len at' wr : Nat) (most : Int) : ByteArray × Nat × Nat :=
  if (pk f len at' wr).2.2 ≠ 0 then (⟨#[]⟩, at', (pk f len at' wr).2.2)
  else if unf (pk f len at' wr).1 < 0 ∨ most < unf (pk f len at' wr).1 then (⟨#[]⟩, at', 2)
  else if ((len - (at' + (pk f len at' wr).2.1) : Nat) : Int) < unf (pk f len at' wr).1 then (⟨#[]⟩, at', 3)
  else (mkS (fun i => f (at' + (pk f len at' wr).2.1 + i)) (unf (pk f len at' wr).1).toNat, at' + (pk f len at' wr).2.1 + (unf (pk f len at' wr).1).toNat, 0)
theorem txt_err {f : Nat → Nat} {len at' wr e : Nat} {most : Int} (h : pk f len at' wr = (0, 0, e)) (he : e ≠ 0) : txt f len at' wr most = (⟨#[]⟩, at', e) := by
  unfold txt; rw [h, if_pos he]
theorem txt_long {f : Nat → Nat} {len at' wr c s : Nat} {most : Int} (h : pk f len at' wr = (c, s, 0)) (h2 : unf c < 0 ∨ most < unf c) : txt f len at' wr most = (⟨#[]⟩, at', 2) := by
  unfold txt; rw [h, if_neg (by simp), if_pos h2]
theorem txt_short {f : Nat → Nat} {len at' wr c s : Nat} {most : Int} (h : pk f len at' wr = (c, s, 0)) (h2 : ¬ (unf c < 0 ∨ most < unf c)) (h3 : ((len - (at' + s) : Nat) : Int) < unf c) : txt f len at' wr most = (⟨#[]⟩, at', 3) := by
  unfold txt; rw [h, if_neg (by simp), if_neg h2, if_pos h3]
theorem txt_ok {f : Nat → Nat} {len at' wr c s : Nat} {most : Int} {n : Nat} (h : pk f len at' wr = (c, s, 0)) (hn : unf c = (n : Int)) (h2 : ¬ most < unf c) (h3 : at' + s + n ≤ len) : txt f len at' wr most = (mkS (fun i => f (at' + s + i)) n, at' + s + n, 0) := by
  unfold txt; rw [h, if_neg (by simp), if_neg (by rw [hn] at h2 ⊢; omega), if_neg (by simp only [hn]; omega)]; simp only [hn, Int.toNat_natCast]

theorem slice_lh (a : Option Addr) (len cap l h : Nat) (hl : l ≤ h) (hh : h ≤ cap) (w : World) : (Instr.sliceAt 95 (.slice a len cap) (some (.int .i64 (l : Int))) (some (.int .i64 (h : Int))) none).run Tryz.prog w = .ok (.slice (sl a l cap) (h - l) (cap - l)) w := by
  rw [run_sliceAt_slice _ _ _ _ _ _ elem32, run_slice_lh _ _ _ _ _ elem32 _ _ _ _ (by omega) (by omega) (by omega), elem32', size5']
  rfl
/-- The error behind End. -/
def endE (len at' wr : Nat) : Nat := if wr = 0 ∧ at' < len then 5 else wr
end Go.Proofs.YtfinaichajbnkaaGreatDoor.Wi
