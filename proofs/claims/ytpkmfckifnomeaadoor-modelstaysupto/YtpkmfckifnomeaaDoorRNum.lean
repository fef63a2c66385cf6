/-
  Number, Key, Signed of the reference; Storing.
-/
import Derived.Test.YtpkmfckifnomeaaDoorStr
namespace Go.Proofs.YtpkmfckifnomeaaDoor
open Go.RowKit

theorem size_zero {s : ByteArray} (h : ¬ 1 ≤ s.size) : L s = [] := List.eq_nil_of_length_eq_zero (by rw [L_len]; omega)
theorem beq_nil (s : ByteArray) : (s.toList == []) = decide (s.size = 0) := by
  have e : s.toList = L s := by rw [ByteArray.toList_eq]; rfl
  rw [e, ← L_len]
  cases L s <;> simp
set_option maxHeartbeats 1000000 in
theorem rnumber_any (s : ByteArray) (most : Nat) (hm : most < 18446744073709551616) (w : World) :
    Calls Tryd.prog 57 #[.string s, .int .u64 (most : Int)] w fun e w' => e = .returned (.tuple #[.int .u64 (nv most (L s) : Int), .bool (nb most (L s))]) ∧ w = w' := by
  have hl := L_len s
  have bn := beq_nil s
  by_cases hlen : 1 ≤ s.size ∧ s.size ≤ 20
  · have hn : num most (L s) = ng most 0 (L s) := if_pos (by rw [hl]; exact hlen)
    have HN := Lib.hid hn
    clear hn
    have h1 : (s.toList == []) = false := by rw [bn]; exact decide_eq_false (by omega)
    have h2 : decide ((20 : Int) < (s.size : Int)) = false := decide_eq_false (by omega)
    obtain ⟨m, hme⟩ : ∃ m : Int, m = (most : Int) := ⟨_, rfl⟩
    rw [← hme]
    have HM := Lib.hid hme
    have m0 : 0 ≤ m := by omega
    have m1 : m < 18446744073709551616 := by omega
    clear hme hm bn
    have HL := Lib.hid hl
    clear hl
    go_enter Tryd.func57, Tryd.ntmps57
    go_wp2_with fail
    go_loopw [6, 7] (fun h i wr => ∃ j n : Nat, ∃ a : Int, j ≤ s.size ∧ i = .int .i64 (j : Int) ∧ h = .int .u64 a ∧ Hid (a = (n : Int) ∧ n ≤ most ∧ ng most 0 (L s) = ng most n ((L s).drop j)) ∧ w = wr) (fun _ i _ => s.size - (intOf i).toNat)
    case atStart => exact ⟨0, 0, 0, by omega, rfl, rfl, Lib.hid ⟨rfl, Nat.zero_le _, rfl⟩, rfl⟩
    case round =>
      obtain ⟨j, n, a, hj, rfl, rfl, HR, rfl⟩ := hrel
      by_cases hlt : j < s.size
      · have hi1 : (j : Int) < (s.size : Int) := by omega
        obtain ⟨c, hc⟩ : ∃ c, (L s)[j]? = some c := ⟨_, List.getElem?_eq_getElem (by rw [L_len]; exact hlt)⟩
        have ix := str_at hc
        have hd : (L s).drop j = c :: (L s).drop (j + 1) := by
          obtain ⟨h1, h2⟩ := List.getElem?_eq_some_iff.1 hc
          rw [← h2]; exact List.drop_eq_getElem_cons h1
        have HD := Lib.hid hd
        clear hd hc
        have ht := c.toNat_lt
        obtain ⟨x, hx⟩ : ∃ x : Int, x = ((c.toNat : Nat) : Int) := ⟨_, rfl⟩
        rw [← hx] at ix
        have x0 : 0 ≤ x := by omega
        have x1 : x < 256 := by omega
        have HX := Lib.hid hx
        clear hx ht
        have e0 : IntKind.u64.wrap x = x := by rw [IntKind.wrap_u64]; omega
        have HST : Hid (¬ (48 ≤ c.toNat ∧ c.toNat ≤ 57 ∧ n * 10 + (c.toNat - 48) ≤ most) → nv most (L s) = 0 ∧ nb most (L s) = false) := Lib.hid (fun hh => num_none (by rw [HN.out, HR.out.2.2, HD.out]; exact ng_stop hh))
        by_cases c1 : x < 48
        · obtain ⟨dd, hdd⟩ : ∃ dd, IntKind.u64.wrap (x - 48) = dd := ⟨_, rfl⟩
          go_wp2_with fail
          obtain ⟨e1, e2⟩ := HST.out (by have := HX.out; omega)
          exact bodyPost_ret (v := .tuple #[.int .u64 0, .bool false]) (by simp [results, Tryd.results57, go_sem]) rfl ⟨by rw [e1, e2]; rfl, rfl⟩
        have c1' : decide (x < 48) = false := decide_eq_false c1
        obtain ⟨d, hdd⟩ : ∃ d : Int, x - 48 = d := ⟨_, rfl⟩
        have d0 : 0 ≤ d := by omega
        have d1 : d < 208 := by omega
        have e3 : IntKind.u64.wrap (x - 48) = d := by rw [hdd, IntKind.wrap_u64]; omega
        have HDD := Lib.hid hdd
        by_cases c2 : 57 < x
        · clear hdd
          go_wp2_with fail
          obtain ⟨e1, e2⟩ := HST.out (by have := HX.out; omega)
          exact bodyPost_ret (v := .tuple #[.int .u64 0, .bool false]) (by simp [results, Tryd.results57, go_sem]) rfl ⟨by rw [e1, e2]; rfl, rfl⟩
        have c2' : decide (57 < x) = false := decide_eq_false c2
        have g1 : d ≤ 9 := by omega
        clear c1 c2 hdd
        by_cases c3 : m < d
        · obtain ⟨q, hq⟩ : ∃ q, IntKind.u64.wrap (m - d) = q := ⟨_, rfl⟩
          have q0 : 0 ≤ q ∧ q < 18446744073709551616 := by rw [← hq, IntKind.wrap_u64]; omega
          have HCC : Hid (nv most (L s) = 0 ∧ nb most (L s) = false) := Lib.hid (HST.out (by have := HX.out; have := HDD.out; have := HM.out; omega))
          obtain ⟨q1, q2⟩ := q0
          by_cases c4 : q / 10 < a
          · have c4' : decide (q / 10 < a) = true := decide_eq_true c4
            go_wp2_with fail
            obtain ⟨e1, e2⟩ := HCC.out
            exact bodyPost_ret (v := .tuple #[.int .u64 0, .bool false]) (by simp [results, Tryd.results57, go_sem]) rfl ⟨by rw [e1, e2]; rfl, rfl⟩
          · have c4' : decide (q / 10 < a) = false := decide_eq_false c4
            go_wp2_with fail
            obtain ⟨e1, e2⟩ := HCC.out
            exact bodyPost_ret (v := .tuple #[.int .u64 0, .bool false]) (by simp [results, Tryd.results57, go_sem]) rfl ⟨by rw [e1, e2]; rfl, rfl⟩
        · have c3' : decide (m < d) = false := decide_eq_false c3
          by_cases c4 : (m - d) / 10 < a
          · go_wp2_with fail
            obtain ⟨e1, e2⟩ := HST.out (by have := HX.out; have := HDD.out; have := HM.out; have := HR.out.1; omega)
            exact bodyPost_ret (v := .tuple #[.int .u64 0, .bool false]) (by simp [results, Tryd.results57, go_sem]) rfl ⟨by rw [e1, e2]; rfl, rfl⟩
          · have c4' : decide ((m - d) / 10 < a) = false := decide_eq_false c4
            have a0 : 0 ≤ a := by have := HR.out.1; omega
            have e5 : IntKind.u64.wrap (a * 10) = a * 10 := by rw [IntKind.wrap_u64]; omega
            have e4 : IntKind.u64.wrap (a * 10 + d) = a * 10 + d := by rw [IntKind.wrap_u64]; omega
            go_wp2_with fail
            refine ⟨⟨j + 1, n * 10 + (c.toNat - 48), a * 10 + d, by omega, by go_num, rfl, Lib.hid ⟨?_, ?_, ?_⟩, trivial⟩, by simp [intOf]; omega⟩
            · have := HX.out; have := HDD.out; have := HR.out.1; omega
            · have := HX.out; have := HDD.out; have := HM.out; have := HR.out.1; omega
            · rw [HR.out.2.2, HD.out, ng, if_pos]
              have := HX.out; have := HDD.out; have := HM.out; have := HR.out.1; omega
      · have hi1 : decide ((j : Int) < (s.size : Int)) = false := decide_eq_false (by omega)
        go_wp2_with fail
        obtain ⟨e1, e2⟩ := num_some (v := n) (by rw [HN.out, HR.out.2.2, List.drop_eq_nil_of_le (by rw [L_len]; omega)]; rfl)
        exact bodyPost_ret (v := .tuple #[.int .u64 a, .bool true]) (by simp [results, Tryd.results57, go_sem]) rfl ⟨by rw [e1, e2, HR.out.1], rfl⟩
  · obtain ⟨e1, e2⟩ := num_none (most := most) (s := L s) (if_neg (by rw [hl]; exact hlen))
    rw [e1, e2]
    clear e1 e2 hl
    by_cases h1 : s.size = 0
    · have h1' : (s.toList == []) = true := by rw [bn]; exact decide_eq_true h1
      clear bn
      go_enter Tryd.func57, Tryd.ntmps57
      go_wp2_with fail
      exact bodyPost_ret (v := .tuple #[.int .u64 0, .bool false]) (by simp [results, Tryd.results57, go_sem]) rfl ⟨rfl, rfl⟩
    · have h1' : (s.toList == []) = false := by rw [bn]; exact decide_eq_false h1
      have h2 : (20 : Int) < (s.size : Int) := by omega
      clear bn
      go_enter Tryd.func57, Tryd.ntmps57
      go_wp2_with fail
      exact bodyPost_ret (v := .tuple #[.int .u64 0, .bool false]) (by simp [results, Tryd.results57, go_sem]) rfl ⟨rfl, rfl⟩
end Go.Proofs.YtpkmfckifnomeaaDoor
