/-
  THE REFERENCE's WRITERS: Num, Text; bytes.Clone.
-/
import Derived.Test.YtcdkpflhpeflcaaWrite
namespace Go.Proofs.Ytcdkpflhpeflcaa
open Go.RowKit
/-- append([]byte{}, b...). -/
theorem copy_row {w : World} {a : Option Addr} {f : Nat → Nat} {n : Nat} (c : Nat) (hr : RowF w a f n) (hb : n ≤ 140737488355328) :
    ∃ v' w', (Builtin.append_ #[22, 22] 22 #[.slice (some ⟨w.heap.size, 0, none⟩) 0 0, .slice a n c]).run Try.prog (w.alloc (.cells #[] 5)) = .ok v' w' ∧ OwnC w' w.heap.size v' (tab f n) ∧ Below w.heap.size w w' := by
  have hb1 : Below w.heap.size w (w.alloc (.cells #[] 5)) := (Below.refl _ _).alloc (Nat.le_refl _) _
  have o1 : OwnC (w.alloc (.cells #[] 5)) w.heap.size (.slice (some ⟨w.heap.size, 0, none⟩) 0 0) [] :=
    .inr ⟨w.heap.size, 0, rfl, Nat.le_refl _, by simp, Nat.le_refl _, by unfold maxLen; omega, fun j hj => by simp at hj, fun j hj => by omega⟩
  obtain ⟨v', w', h1, h2, h3⟩ := app_row c o1 (by rw [World.size_alloc]; omega) (hr.below hb1) (by simp; exact hb)
  exact ⟨v', w', h1, h2, hb1.trans h3⟩
set_option maxHeartbeats 1000000 in
set_option maxRecDepth 100000 in
theorem rnum_any (a : Option Addr) (k c : Nat) (f : Nat → Nat) (n : Int) (h1 : -9223372036854775808 ≤ n) (h2 : n ≤ 9223372036854775807) (hk : k + 10 ≤ 140737488355328) (w : World) (ra : RowF w a f k) :
    Calls Try.prog 22 #[.slice a k c, .int .i64 n] w fun e w' => ∃ v, e = .returned v ∧ OwnC w' w.heap.size v (tab f k ++ enc (fold n)) ∧ Below w.heap.size w w' := by
  have hf := fold_lt h1 h2
  have hlen := enc_len10 hf
  obtain ⟨u0, hu0⟩ : ∃ u, u = fold n := ⟨_, rfl⟩
  obtain ⟨l, hl⟩ : ∃ l, l = tab f k := ⟨_, rfl⟩
  have hll : l.length = k := by rw [hl]; exact tab_length _ _
  have HE : Hid (l ++ enc u0 = tab f k ++ enc (fold n)) := by show _ = _; rw [hu0, hl]
  have HN : Hid (l.length + (enc u0).length ≤ 140737488355328) := by show _ ≤ _; rw [hu0]; omega
  have hu : u0 < 18446744073709551616 := by rw [hu0]; exact hf
  obtain ⟨v1, w1, hrun, O1, B1⟩ := copy_row c ra (by omega)
  rw [← hl] at O1
  have HO : Hid (OwnC w1 w.heap.size v1 l) := O1
  have HB : Hid (Below w.heap.size w w1) := B1
  obtain ⟨a1, c1, rfl, _⟩ := O1.row
  clear hf hlen hl hll O1 B1
  by_cases hn : n < 0
  case' pos =>
    obtain ⟨y, hy⟩ : ∃ y : Nat, (y : Int) = -1 - n := ⟨(-1 - n).toNat, by omega⟩
    have e0 : bits .xor .i64 (-1) n = (y : Int) := by rw [hy]; exact inot n h1 h2
    have hy2 : y < 9223372036854775808 := by omega
    have e1 : bits .or .u64 ((y : Int) * 2) 1 = ((u0 : Nat) : Int) := by
      have := or1 (y * 2) (by omega) (by omega)
      rw [show y * 2 + 1 = u0 by rw [hu0]; unfold fold; rw [if_pos hn]; omega] at this
      rw [← this]; congr 1
    have hU : IntKind.u64.wrap (y : Int) = (y : Int) := by rw [IntKind.wrap_u64]; omega
    have hV : IntKind.u64.wrap ((y : Int) * 2) = (y : Int) * 2 := by rw [IntKind.wrap_u64]; omega
    clear hy hu0
    go_enter Try.func22, Try.ntmps22
    go_wp2_with (at_builtin; refine wpList_append_run rfl _ _ 22 22 rfl _ _ _ rfl rfl hrun ?_)
  case' neg =>
    have i1 : decide (n < (0 : Int)) = false := by simp; omega
    have e2 : n * 2 = (u0 : Int) := by rw [hu0]; unfold fold; rw [if_neg hn]; omega
    have hn' : 0 ≤ n := by omega
    clear hu0 hn
    go_enter Try.func22, Try.ntmps22
    go_wp2_with (at_builtin; refine wpList_append_run rfl _ _ 22 22 rfl _ _ _ rfl rfl hrun ?_)
  all_goals
    go_loopw [5, 6] (fun x y wr => ∃ (m : List Nat) (u : Nat), y = .int .u64 (u : Int) ∧ u < 18446744073709551616 ∧ (∃ a c, x = .slice a m.length c) ∧ Hid (OwnC wr w.heap.size x m) ∧ Hid (m ++ enc u = tab f k ++ enc (fold n)) ∧ Hid (m.length + (enc u).length ≤ 140737488355328) ∧ Hid (Below w.heap.size w wr)) (fun _ y _ => (intOf y).toNat)
    case atStart => exact ⟨l, u0, rfl, hu, ⟨_, _, rfl⟩, HO, HE, HN, HB⟩
    case round =>
      clear HO HE HN hu HB
      obtain ⟨m, u, rfl, hu, ⟨a, c, rfl⟩, HO, HE, HN, HB⟩ := hrel
      have hBr : w.heap.size ≤ wr.heap.size := HB.out.size
      by_cases hlt : u < 128
      · obtain ⟨v2, w2, hrun, O2, B2⟩ := app_one u HO.out hBr (by have := HN.out; have := enc_ne u; omega)
        have H2 : Hid (OwnC w2 w.heap.size v2 (tab f k ++ enc (fold n))) := by rw [← HE.out, enc_lo hlt]; exact O2
        have HB2 : Hid (Below w.heap.size w w2) := HB.out.trans B2
        have i1 : decide ((128 : Int) ≤ (u : Int)) = false := by simp; omega
        have i2 : (u : Int) % 256 = (u : Int) := by omega
        clear HO HB O2 B2 HE HN
        go_wp2_with (at_builtin; refine wpList_append_run rfl _ _ 22 22 rfl _ _ _ rfl rfl hrun ?_)
        go_ret
        exact ⟨_, rfl, H2, HB2⟩
      · obtain ⟨x, hx⟩ : ∃ x, x = u % 128 + 128 := ⟨_, rfl⟩
        have hand := and127 u hu
        obtain ⟨q, hq⟩ : ∃ q, q = u % 128 := ⟨_, rfl⟩
        rw [← hq] at hand
        have hq2 : q < 128 := by omega
        have hor : bits BinOp.or IntKind.u8 (q : Int) 128 = ((x : Nat) : Int) := by
          have := or128 q (by omega)
          rw [show q % 128 + 128 = x by omega] at this
          rw [← this]
        have i5 : (q : Int) % 256 = (q : Int) := by omega
        obtain ⟨v2, w2, hrun, O2, B2⟩ := app_one x HO.out hBr (by have := HN.out; have := enc_ne u; omega)
        have e1 : enc u = x :: enc (u / 128) := by rw [enc_hi hlt, hx]
        have HE2 : Hid ((m ++ [x]) ++ enc (u / 128) = tab f k ++ enc (fold n)) := by show _ = _; rw [← HE.out, e1]; simp
        have HN2 : Hid ((m ++ [x]).length + (enc (u / 128)).length ≤ 140737488355328) := by have := HN.out; rw [e1] at this; show _ ≤ _; simp at this ⊢; omega
        obtain ⟨m2, hm2⟩ : ∃ m2, m2 = m ++ [x] := ⟨_, rfl⟩
        rw [← hm2] at O2 HE2 HN2
        have H2 : Hid (OwnC w2 w.heap.size v2 m2) := O2
        have HB2 : Hid (Below w.heap.size w w2) := HB.out.trans B2
        obtain ⟨a2, c2, rfl, _⟩ := O2.row
        have i1 : (128 : Int) ≤ (u : Int) := by omega
        have hlt2 : 128 ≤ u := by omega
        clear HO HB O2 B2 HE HN hx e1 hm2 hq
        go_wp2_with (at_builtin; refine wpList_append_run rfl _ _ 22 22 rfl _ _ _ rfl rfl hrun ?_)
        go_roundw
        case rel => exact ⟨m2, u / 128, by go_num, by omega, ⟨a2, c2, rfl⟩, H2, HE2, HN2, HB2⟩
        case measure => simp [intOf]; omega
theorem rtext_any (a : Option Addr) (k c : Nat) (f : Nat → Nat) (s : ByteArray) (hk : k + 10 + s.size ≤ 140737488355328) (w : World) (ra : RowF w a f k) :
    Calls Try.prog 23 #[.slice a k c, .string s] w fun e w' => ∃ v, e = .returned v ∧ OwnC w' w.heap.size v (tab f k ++ (enc (s.size * 2) ++ sb s)) ∧ Below w.heap.size w w' := by
  have hs : s.size ≤ 140737488355328 := by omega
  go_enter Try.func23, Try.ntmps23
  go_wp2_with fail
  refine (rnum_any a k c f (s.size : Int) (by omega) (by omega) (by omega) _ ra).mono ?_
  rintro e w3 ⟨v3, rfl, O3, B3⟩
  rw [fold_nat] at O3
  have HB3 : Hid (Below w.heap.size w w3) := B3
  have hlen := enc_len10 (u := s.size * 2) (by omega)
  obtain ⟨l3, e3⟩ : ∃ l3, l3 = tab f k ++ enc (s.size * 2) := ⟨_, rfl⟩
  have hl3 : l3.length ≤ k + 10 := by rw [e3, List.length_append, tab_length]; omega
  have E3 : Hid (l3 ++ sb s = tab f k ++ (enc (s.size * 2) ++ sb s)) := by show _ = _; rw [e3, List.append_assoc]
  rw [← e3] at O3
  clear e3 hlen
  obtain ⟨v4, w4, hrun, O4, B4⟩ := app_str s O3 HB3.out.size (by omega)
  have H4 : Hid (OwnC w4 w.heap.size v4 (tab f k ++ (enc (s.size * 2) ++ sb s))) := by rw [← E3.out]; exact O4
  have HB4 : Hid (Below w.heap.size w w4) := HB3.out.trans B4
  obtain ⟨a3, c3, rfl, _⟩ := O3.row
  clear O3 B3 HB3 O4 B4 hl3 E3
  go_wp2_with (at_builtin; refine wpList_append_run rfl _ _ 22 9 rfl _ _ _ rfl rfl hrun ?_)
  go_ret
  exact ⟨_, rfl, H4, HB4⟩
theorem eql_some (ad : Addr) (n c : Nat) (w : World) : (binOp .eql 22 (.slice (some ad) n c) (.slice none 0 0)).run Try.prog w = .ok (.bool false) w := by kernel_rfl
theorem eql_none (n c : Nat) (w : World) : (binOp .eql 22 (.slice none n c) (.slice none 0 0)).run Try.prog w = .ok (.bool true) w := by kernel_rfl
theorem clone_any (a : Option Addr) (n c : Nat) (f : Nat → Nat) (hn : n ≤ 140737488355328) (w : World) (ra : RowF w a f n) :
    Calls Try.prog 31 #[.slice a n c] w fun e w' => ∃ v, e = .returned v ∧ OwnC w' w.heap.size v (tab f n) ∧ Below w.heap.size w w' := by
  cases a with
  | none =>
    have h0 : n = 0 := by
      rcases ra with h | ⟨p, off, h, _⟩
      · exact h
      · cases h
    subst h0
    have e1 := eql_none 0 c
    go_enter Try.func31, Try.ntmps31
    go_wp2_with fail
    go_ret
    exact ⟨_, rfl, .inl ⟨rfl, rfl⟩, Below.refl _ _⟩
  | some ad =>
    obtain ⟨v1, w1, hrun, O1, B1⟩ := copy_row c ra hn
    have H1 : Hid (OwnC w1 w.heap.size v1 (tab f n)) := O1
    have HB : Hid (Below w.heap.size w w1) := B1
    obtain ⟨a1, c1, rfl, _⟩ := O1.row
    have e1 := eql_some ad n c
    clear O1 B1 ra
    go_enter Try.func31, Try.ntmps31
    go_wp2_with (at_builtin; refine wpList_append_run rfl _ _ 22 22 rfl _ _ _ rfl rfl hrun ?_)
    go_ret
    exact ⟨_, rfl, H1, HB⟩
end Go.Proofs.Ytcdkpflhpeflcaa
