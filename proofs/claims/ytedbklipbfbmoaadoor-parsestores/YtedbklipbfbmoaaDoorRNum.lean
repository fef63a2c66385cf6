/-
  Number, Key, Signed of the reference; Storing.
-/
import Derived.Test.YtedbklipbfbmoaaDoorHush
namespace Go.Proofs.YtedbklipbfbmoaaDoor
open Go.RowKit

theorem size_zero {s : ByteArray} (h : ¬ 1 ≤ s.size) : L s = [] := List.eq_nil_of_length_eq_zero (by rw [L_len]; omega)
theorem beq_nil (s : ByteArray) : (s.toList == []) = decide (s.size = 0) := by
  have e : s.toList = L s := by rw [ByteArray.toList_eq]; rfl
  rw [e, ← L_len]
  cases L s <;> simp
set_option maxHeartbeats 1000000 in
theorem rnumber_any (s : ByteArray) (most : Nat) (hm : most < 18446744073709551616) (w : World) :
    Calls Tryd.prog 83 #[.string s, .int .u64 (most : Int)] w fun e w' => e = .returned (.tuple #[.int .u64 (nv most (L s) : Int), .bool (nb most (L s))]) ∧ w = w' := by
  have hl := L_len s
  have bn := beq_nil s
  by_cases hlen : 1 ≤ s.size ∧ s.size ≤ 20
  · have hn : num most (L s) = ng most 0 (L s) := if_pos (by rw [hl]; exact hlen)
    have HN := Lib.hid hn
    clear hn
    have h1 : (s.toList == []) = false := by rw [bn]; exact decide_eq_false (by omega)
    have h2 : decide ((20 : Int) < (s.size : Int)) = false := decide_eq_false (by omega)
    obtain ⟨m, hme⟩ : ∃ m : Int, m = (most : Int) := ⟨_, rfl⟩
    rw [← hme]
    have HM := Lib.hid hme
    have m0 : 0 ≤ m := by omega
    have m1 : m < 18446744073709551616 := by omega
    clear hme hm bn
    have HL := Lib.hid hl
    clear hl
    go_enter Tryd.func83, Tryd.ntmps83
    go_wp2_with fail
    go_loopw [6, 7] (fun h i wr => ∃ j n : Nat, ∃ a : Int, j ≤ s.size ∧ i = .int .i64 (j : Int) ∧ h = .int .u64 a ∧ Hid (a = (n : Int) ∧ n ≤ most ∧ ng most 0 (L s) = ng most n ((L s).drop j)) ∧ w = wr) (fun _ i _ => s.size - (intOf i).toNat)
    case atStart => exact ⟨0, 0, 0, by omega, rfl, rfl, Lib.hid ⟨rfl, Nat.zero_le _, rfl⟩, rfl⟩
    case round =>
      obtain ⟨j, n, a, hj, rfl, rfl, HR, rfl⟩ := hrel
      by_cases hlt : j < s.size
      · have hi1 : (j : Int) < (s.size : Int) := by omega
        obtain ⟨c, hc⟩ : ∃ c, (L s)[j]? = some c := ⟨_, List.getElem?_eq_getElem (by rw [L_len]; exact hlt)⟩
        have ix := str_at hc
        have hd : (L s).drop j = c :: (L s).drop (j + 1) := by
          obtain ⟨h1, h2⟩ := List.getElem?_eq_some_iff.1 hc
          rw [← h2]; exact List.drop_eq_getElem_cons h1
        have HD := Lib.hid hd
        clear hd hc
        have ht := c.toNat_lt
        obtain ⟨x, hx⟩ : ∃ x : Int, x = ((c.toNat : Nat) : Int) := ⟨_, rfl⟩
        rw [← hx] at ix
        have x0 : 0 ≤ x := by omega
        have x1 : x < 256 := by omega
        have HX := Lib.hid hx
        clear hx ht
        have e0 : IntKind.u64.wrap x = x := by rw [IntKind.wrap_u64]; omega
        have HST : Hid (¬ (48 ≤ c.toNat ∧ c.toNat ≤ 57 ∧ n * 10 + (c.toNat - 48) ≤ most) → nv most (L s) = 0 ∧ nb most (L s) = false) := Lib.hid (fun hh => num_none (by rw [HN.out, HR.out.2.2, HD.out]; exact ng_stop hh))
        by_cases c1 : x < 48
        · obtain ⟨dd, hdd⟩ : ∃ dd, IntKind.u64.wrap (x - 48) = dd := ⟨_, rfl⟩
          go_wp2_with fail
          obtain ⟨e1, e2⟩ := HST.out (by have := HX.out; omega)
          exact bodyPost_ret (v := .tuple #[.int .u64 0, .bool false]) (by simp [results, Tryd.results83, go_sem]) rfl ⟨by rw [e1, e2]; rfl, rfl⟩
        have c1' : decide (x < 48) = false := decide_eq_false c1
        obtain ⟨d, hdd⟩ : ∃ d : Int, x - 48 = d := ⟨_, rfl⟩
        have d0 : 0 ≤ d := by omega
        have d1 : d < 208 := by omega
        have e3 : IntKind.u64.wrap (x - 48) = d := by rw [hdd, IntKind.wrap_u64]; omega
        have HDD := Lib.hid hdd
        by_cases c2 : 57 < x
        · clear hdd
          go_wp2_with fail
          obtain ⟨e1, e2⟩ := HST.out (by have := HX.out; omega)
          exact bodyPost_ret (v := .tuple #[.int .u64 0, .bool false]) (by simp [results, Tryd.results83, go_sem]) rfl ⟨by rw [e1, e2]; rfl, rfl⟩
        have c2' : decide (57 < x) = false := decide_eq_false c2
        have g1 : d ≤ 9 := by omega
        clear c1 c2 hdd
        by_cases c3 : m < d
        · obtain ⟨q, hq⟩ : ∃ q, IntKind.u64.wrap (m - d) = q := ⟨_, rfl⟩
          have q0 : 0 ≤ q ∧ q < 18446744073709551616 := by rw [← hq, IntKind.wrap_u64]; omega
          have HCC : Hid (nv most (L s) = 0 ∧ nb most (L s) = false) := Lib.hid (HST.out (by have := HX.out; have := HDD.out; have := HM.out; omega))
          obtain ⟨q1, q2⟩ := q0
          by_cases c4 : q / 10 < a
          · have c4' : decide (q / 10 < a) = true := decide_eq_true c4
            go_wp2_with fail
            obtain ⟨e1, e2⟩ := HCC.out
            exact bodyPost_ret (v := .tuple #[.int .u64 0, .bool false]) (by simp [results, Tryd.results83, go_sem]) rfl ⟨by rw [e1, e2]; rfl, rfl⟩
          · have c4' : decide (q / 10 < a) = false := decide_eq_false c4
            go_wp2_with fail
            obtain ⟨e1, e2⟩ := HCC.out
            exact bodyPost_ret (v := .tuple #[.int .u64 0, .bool false]) (by simp [results, Tryd.results83, go_sem]) rfl ⟨by rw [e1, e2]; rfl, rfl⟩
        · have c3' : decide (m < d) = false := decide_eq_false c3
          by_cases c4 : (m - d) / 10 < a
          · go_wp2_with fail
            obtain ⟨e1, e2⟩ := HST.out (by have := HX.out; have := HDD.out; have := HM.out; have := HR.out.1; omega)
            exact bodyPost_ret (v := .tuple #[.int .u64 0, .bool false]) (by simp [results, Tryd.results83, go_sem]) rfl ⟨by rw [e1, e2]; rfl, rfl⟩
          · have c4' : decide ((m - d) / 10 < a) = false := decide_eq_false c4
            have a0 : 0 ≤ a := by have := HR.out.1; omega
            have e5 : IntKind.u64.wrap (a * 10) = a * 10 := by rw [IntKind.wrap_u64]; omega
            have e4 : IntKind.u64.wrap (a * 10 + d) = a * 10 + d := by rw [IntKind.wrap_u64]; omega
            go_wp2_with fail
            refine ⟨⟨j + 1, n * 10 + (c.toNat - 48), a * 10 + d, by omega, by go_num, rfl, Lib.hid ⟨?_, ?_, ?_⟩, trivial⟩, by simp [intOf]; omega⟩
            · have := HX.out; have := HDD.out; have := HR.out.1; omega
            · have := HX.out; have := HDD.out; have := HM.out; have := HR.out.1; omega
            · rw [HR.out.2.2, HD.out, ng, if_pos]
              have := HX.out; have := HDD.out; have := HM.out; have := HR.out.1; omega
      · have hi1 : decide ((j : Int) < (s.size : Int)) = false := decide_eq_false (by omega)
        go_wp2_with fail
        obtain ⟨e1, e2⟩ := num_some (v := n) (by rw [HN.out, HR.out.2.2, List.drop_eq_nil_of_le (by rw [L_len]; omega)]; rfl)
        exact bodyPost_ret (v := .tuple #[.int .u64 a, .bool true]) (by simp [results, Tryd.results83, go_sem]) rfl ⟨by rw [e1, e2, HR.out.1], rfl⟩
  · obtain ⟨e1, e2⟩ := num_none (most := most) (s := L s) (if_neg (by rw [hl]; exact hlen))
    rw [e1, e2]
    clear e1 e2 hl
    by_cases h1 : s.size = 0
    · have h1' : (s.toList == []) = true := by rw [bn]; exact decide_eq_true h1
      clear bn
      go_enter Tryd.func83, Tryd.ntmps83
      go_wp2_with fail
      exact bodyPost_ret (v := .tuple #[.int .u64 0, .bool false]) (by simp [results, Tryd.results83, go_sem]) rfl ⟨rfl, rfl⟩
    · have h1' : (s.toList == []) = false := by rw [bn]; exact decide_eq_false h1
      have h2 : (20 : Int) < (s.size : Int) := by omega
      clear bn
      go_enter Tryd.func83, Tryd.ntmps83
      go_wp2_with fail
      exact bodyPost_ret (v := .tuple #[.int .u64 0, .bool false]) (by simp [results, Tryd.results83, go_sem]) rfl ⟨rfl, rfl⟩
set_option maxHeartbeats 1000000 in
theorem rkey_any (s : ByteArray) (hs : s.size ≤ 140737488355328) (w : World) : Calls Tryd.prog 16 #[.string s] w fun e w' => e = .returned (.bool (key (L s))) ∧ w = w' := by
  have bn := beq_nil s
  obtain ⟨b0, hb0⟩ : ∃ b0, decide (s.size = 0) = b0 := ⟨_, rfl⟩
  rw [hb0] at bn
  have HB0 := Lib.hid hb0
  clear hb0
  obtain ⟨KB, hKB⟩ : ∃ KB, key (L s) = KB := ⟨_, rfl⟩
  rw [hKB]
  have HKB := Lib.hid hKB
  clear hKB
  go_enter Tryd.func16, Tryd.ntmps16
  go_wp2_with fail
  go_loopw [3] (fun i wr => ∃ j : Nat, j ≤ s.size ∧ i = .int .i64 (j : Int) ∧ Hid (∀ c ∈ (L s).take j, 32 < c.toNat ∧ c.toNat ≠ 127) ∧ w = wr) (fun i _ => s.size - (intOf i).toNat)
  case atStart => exact ⟨0, by omega, rfl, Lib.hid (fun _ h => by simp at h), rfl⟩
  case round =>
    obtain ⟨j, hj, rfl, HR, rfl⟩ := hrel
    by_cases hlt : j < s.size
    · have hi1 : (j : Int) < (s.size : Int) := by omega
      obtain ⟨c, hc⟩ : ∃ c, (L s)[j]? = some c := ⟨_, List.getElem?_eq_getElem (by rw [L_len]; exact hlt)⟩
      have ix := str_at hc
      have HC := Lib.hid hc
      clear hc
      have ht := c.toNat_lt
      obtain ⟨x, hx⟩ : ∃ x : Int, x = ((c.toNat : Nat) : Int) := ⟨_, rfl⟩
      rw [← hx] at ix
      have x0 : 0 ≤ x := by omega
      have x1 : x < 256 := by omega
      have HX := Lib.hid hx
      clear hx ht
      by_cases c1 : x ≤ 32
      · have e : Hid (KB = false) := Lib.hid (HKB.out.symm.trans (key_step HC.out (by have := HX.out; omega)))
        go_wp2_with fail
        go_ret
        exact ⟨by rw [e.out]; rfl, rfl⟩
      have c1' : decide (x ≤ 32) = false := decide_eq_false c1
      by_cases c2 : x = 127
      · have e : Hid (KB = false) := Lib.hid (HKB.out.symm.trans (key_step HC.out (by have := HX.out; omega)))
        subst c2
        go_wp2_with fail
        go_ret
        exact ⟨by rw [e.out]; rfl, rfl⟩
      · go_wp2_with fail
        refine ⟨⟨j + 1, by omega, by go_num, Lib.hid (fun y hy => ?_), trivial⟩, by simp [intOf]; omega⟩
        rw [List.take_add_one, HC.out] at hy
        rcases List.mem_append.1 hy with hy | hy
        · exact HR.out y hy
        · simp at hy; subst hy; have := HX.out; omega
    · have hi1 : decide ((j : Int) < (s.size : Int)) = false := decide_eq_false (by omega)
      have hall : ∀ c ∈ L s, 32 < c.toNat ∧ c.toNat ≠ 127 := fun c hc => HR.out c (by rw [List.take_of_length_le (by rw [L_len]; omega)]; exact hc)
      have HE : Hid (KB = (!b0 && decide (s.size ≤ 250))) := Lib.hid (by
        rw [← HKB.out, ← HB0.out]
        unfold key
        rw [L_len, show ((L s).all fun c => decide (32 < c.toNat) && decide (c.toNat ≠ 127)) = true from List.all_eq_true.2 (fun c hc => by have := hall c hc; simp; omega), Bool.and_true]
        by_cases h0 : s.size = 0
        · simp [h0]
        · rw [decide_eq_true (show 1 ≤ s.size by omega), decide_eq_false h0]; rfl)
      clear hall
      cases b0 with
      | true =>
        go_wp2_with fail
        go_ret
        exact ⟨by rw [HE.out]; rfl, rfl⟩
      | false =>
        by_cases h2 : s.size ≤ 250
        · have h2' : (s.size : Int) ≤ 250 := by omega
          go_wp2_with fail
          go_ret
          exact ⟨by rw [HE.out, decide_eq_true h2]; rfl, rfl⟩
        · have h2' : decide ((s.size : Int) ≤ 250) = false := decide_eq_false (by omega)
          go_wp2_with fail
          go_ret
          exact ⟨by rw [HE.out, decide_eq_false h2]; rfl, rfl⟩
theorem storing_any (v : Int) (w : World) : Calls Tryd.prog 19 #[.int .i64 v] w fun e w' => e = .returned (.bool (decide (3 ≤ v) && decide (v ≤ 8))) ∧ w = w' := by
  by_cases h1 : 3 ≤ v
  · have h1' : decide (3 ≤ v) = true := decide_eq_true h1
    by_cases h2 : v ≤ 8
    · have h2' : decide (v ≤ 8) = true := decide_eq_true h2
      rw [h1', h2']
      go_enter Tryd.func19, Tryd.ntmps19
      go_wp2_with fail
      go_ret
      exact ⟨rfl, rfl⟩
    · have h2' : decide (v ≤ 8) = false := decide_eq_false h2
      rw [h1', h2']
      go_enter Tryd.func19, Tryd.ntmps19
      go_wp2_with fail
      go_ret
      exact ⟨rfl, rfl⟩
  · have h1' : decide (3 ≤ v) = false := decide_eq_false h1
    rw [h1']
    go_enter Tryd.func19, Tryd.ntmps19
    go_wp2_with fail
    go_ret
    exact ⟨rfl, rfl⟩
theorem ext_one {s : ByteArray} {c : UInt8} {r : B} (h : L s = c :: r) : s.extract 1 s.size = S r := L_inj (by rw [L_extract, ← L_len, List.take_length, h]; rfl)
theorem num_minus (most : Nat) : num most [45] = none := by
  unfold num
  rw [if_pos (by decide)]
  exact ng_stop (fun h => absurd h.1 (by decide))
set_option maxHeartbeats 1000000 in
theorem rsigned_any (s : ByteArray) (hs : s.size ≤ 140737488355328) (most : Nat) (hm : most < 9223372036854775808) (w : World) :
    Calls Tryd.prog 84 #[.string s, .int .u64 (most : Int)] w fun e w' => e = .returned (.tuple #[.int .i64 (gv most (L s)), .bool (gb most (L s))]) ∧ w = w' := by
  by_cases hr : ∃ r, L s = 45 :: r ∧ r ≠ []
  · obtain ⟨r, hr, hr0⟩ := hr
    obtain ⟨eg1, eg2⟩ := sg_minus most r
    rw [hr, eg1, eg2]
    have HW := rnumber_any (S r) most (by omega)
    have hv := nv_le most r
    rw [L_S] at HW
    have ix := str_at (s := s) (q := 0) (c := 45) (by rw [hr]; rfl)
    have ix0 : ∀ w : World, (Instr.index 9 (.string s) (.int .i64 0)).run Tryd.prog w = .ok (.int .u8 45) w := ix
    have s1 : (1 : Int) < (s.size : Int) := by
      have := L_len s
      rw [hr] at this
      have := List.length_pos_iff.2 hr0
      simp at *; omega
    have ex := ext_one hr
    obtain ⟨m, hme⟩ : ∃ m : Int, m = (most : Int) := ⟨_, rfl⟩
    obtain ⟨v, hve⟩ : ∃ v : Int, v = (nv most r : Int) := ⟨_, rfl⟩
    obtain ⟨b, hb⟩ : ∃ b : Bool, b = nb most r := ⟨_, rfl⟩
    have v0 : 0 ≤ v := by omega
    have v1 : v < 9223372036854775808 := by omega
    have wr : wrap64 (-v) = -v := by unfold wrap64; omega
    rw [← hme, ← hve, ← hb]
    simp only [← hme, ← hve, ← hb] at HW
    generalize S r = R at *
    clear hme hve hb hv hm eg1 eg2 hr ix hr0
    go_enter Tryd.func84, Tryd.ntmps84
    go_wp2_with fail
    refine (HW _).mono ?_
    rintro e w' ⟨rfl, rfl⟩
    go_wp2_with fail
    exact bodyPost_ret (v := .tuple #[.int .i64 (-v), .bool b]) (by simp [results, Tryd.results84, go_sem]) rfl ⟨rfl, rfl⟩
  · have hg : gv most (L s) = (nv most (L s) : Int) ∧ gb most (L s) = nb most (L s) := by
      by_cases h45 : L s = [45]
      · rw [h45]
        obtain ⟨e1, e2⟩ := sg_minus most []
        obtain ⟨e3, e4⟩ := num_none (num_minus most)
        have e5 : num most [] = none := by unfold num; rw [if_neg (by simp)]
        obtain ⟨e6, e7⟩ := num_none e5
        rw [e1, e2, e3, e4, e6, e7]; exact ⟨rfl, rfl⟩
      · exact sg_plain most (L s) (fun r h => hr ⟨r, h, fun h0 => h45 (by rw [h, h0])⟩)
    obtain ⟨eg1, eg2⟩ := hg
    rw [eg1, eg2]
    have HW := rnumber_any s most (by omega)
    have hv := nv_le most (L s)
    obtain ⟨m, hme⟩ : ∃ m : Int, m = (most : Int) := ⟨_, rfl⟩
    obtain ⟨v, hve⟩ : ∃ v : Int, v = (nv most (L s) : Int) := ⟨_, rfl⟩
    obtain ⟨b, hb⟩ : ∃ b : Bool, b = nb most (L s) := ⟨_, rfl⟩
    have v0 : 0 ≤ v := by omega
    have v1 : v < 9223372036854775808 := by omega
    rw [← hme, ← hve, ← hb]
    simp only [← hme, ← hve, ← hb] at HW
    clear hme hve hb hv hm eg1 eg2
    by_cases s1 : 1 < s.size
    · have s1' : (1 : Int) < (s.size : Int) := by omega
      obtain ⟨c, hc⟩ : ∃ c, (L s)[0]? = some c := ⟨_, List.getElem?_eq_getElem (by rw [L_len]; omega)⟩
      have ix := str_at hc
      obtain ⟨x, hx⟩ : ∃ x : Int, x = ((c.toNat : Nat) : Int) := ⟨_, rfl⟩
      rw [← hx] at ix
      have ix0 : ∀ w : World, (Instr.index 9 (.string s) (.int .i64 0)).run Tryd.prog w = .ok (.int .u8 x) w := ix
      have hx2 : ¬ (x = 45) := fun e => by
        have hc45 : c = 45 := UInt8.toNat_inj.1 (by have : (45 : UInt8).toNat = 45 := rfl; omega)
        rcases hh : L s with _ | ⟨y, r⟩
        · rw [hh] at hc; simp at hc
        · rw [hh] at hc
          simp at hc
          subst hc
          exact hr ⟨r, by rw [hh, hc45], fun h0 => by have := L_len s; rw [hh, h0] at this; simp at this; omega⟩
      clear hx hc ix hr
      go_enter Tryd.func84, Tryd.ntmps84
      go_wp2_with fail
      refine (HW _).mono ?_
      rintro e w' ⟨rfl, rfl⟩
      go_wp2_with fail
      exact bodyPost_ret (v := .tuple #[.int .i64 v, .bool b]) (by simp [results, Tryd.results84, go_sem]) rfl ⟨rfl, rfl⟩
    · have s1' : decide ((1 : Int) < (s.size : Int)) = false := decide_eq_false (by omega)
      clear hr
      go_enter Tryd.func84, Tryd.ntmps84
      go_wp2_with fail
      refine (HW _).mono ?_
      rintro e w' ⟨rfl, rfl⟩
      go_wp2_with fail
      exact bodyPost_ret (v := .tuple #[.int .i64 v, .bool b]) (by simp [results, Tryd.results84, go_sem]) rfl ⟨rfl, rfl⟩
end Go.Proofs.YtedbklipbfbmoaaDoor
