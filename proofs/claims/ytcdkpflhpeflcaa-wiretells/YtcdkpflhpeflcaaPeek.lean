/-
  A READER: what lies in its block; PEEK of the program.
-/
import Derived.Test.YtcdkpflhpeflcaaRefW
namespace Go.Proofs.Ytcdkpflhpeflcaa
open Go.RowKit

/-- A reader lies in block R: its bytes, its place, its error. -/
structure IsRd (w : World) (R : Nat) (f : Nat → Nat) (len at' wr : Nat) : Prop where
  bs : ∃ a c, w.cell? ⟨R, 0, none⟩ = some (.slice a len c) ∧ len ≤ c ∧ RowF w a f len
  pl : w.cell? ⟨R, 1, none⟩ = some (.int .i64 ((at' : Nat) : Int))
  er : w.cell? ⟨R, 2, none⟩ = some (.int .i64 ((wr : Nat) : Int))
  f1 : w.frozen? ⟨R, 1, none⟩ = false
  f2 : w.frozen? ⟨R, 2, none⟩ = false
  hat : at' ≤ len
  lim : len ≤ 140737488355328
  fb : ∀ i, f i < 256
/-- What stands at the reader's place: the code, how many bytes, the error. -/
def pk (f : Nat → Nat) (len at' wr : Nat) : Nat × Nat × Nat := if wr = 0 then scan (fun i => f (at' + i)) (len - at') 0 0 else (0, 0, wr)
theorem pk_wr {f : Nat → Nat} {len at' wr : Nat} (h : wr ≠ 0) : pk f len at' wr = (0, 0, wr) := by unfold pk; rw [if_neg h]
theorem pk_0 (f : Nat → Nat) (len at' : Nat) : pk f len at' 0 = scan (fun i => f (at' + i)) (len - at') 0 0 := by unfold pk; rw [if_pos rfl]
theorem badB_true {i c : Nat} (h : badB i c = true) : (0 < i ∧ c = 0) ∨ (i = 9 ∧ 1 < c) := by simpa [badB] using h

theorem pk_ret {q : Nat × Nat × Nat} {c s e : Nat} {X : Int} (h : q = (c, s, e)) (hX : unf c = X) : Ending.returned (.tuple #[.int .i64 X, .int .i64 ((s : Nat) : Int), .int .i64 ((e : Nat) : Int)]) = Ending.returned (.tuple #[.int .i64 (unf q.1), .int .i64 ((q.2.1 : Nat) : Int), .int .i64 ((q.2.2 : Nat) : Int)]) := by subst h hX; rfl
set_option maxHeartbeats 1000000 in
set_option maxRecDepth 100000 in
theorem peek_any (R len at' wr : Nat) (f : Nat → Nat) (w : World) (h : IsRd w R f len at' wr) :
    Calls Try.prog 36 #[.pointer (some ⟨R, 0, none⟩)] w fun e w' => e = .returned (.tuple #[.int .i64 (unf (pk f len at' wr).1), .int .i64 (((pk f len at' wr).2.1 : Nat) : Int), .int .i64 (((pk f len at' wr).2.2 : Nat) : Int)]) ∧ ∃ n, w' = w.drewN n := by
  obtain ⟨⟨a, c, hb, hlc, ra⟩, hp, he, f1, f2, hat, lim, fb⟩ := h
  by_cases hw : wr = 0
  · subst hw
    by_cases hlt : at' < len
    · rcases ra with h0 | ⟨p, off, rfl, hc⟩
      · exfalso; omega
      have e1 : (at' : Int) ≤ (len : Int) := by omega
      have HS : Hid (pk f len at' 0 = scan (fun i => f (at' + i)) (len - at' - 0) 0 0) := pk_0 f len at'
      have HC : Hid (∀ i, i < len → w.cell? ⟨p, off + i, none⟩ = some (.int .u8 ((f i : Nat) : Int))) := hc
      have HF : Hid (∀ i, f i < 256) := fb
      obtain ⟨m, hm⟩ : ∃ m, m = len - at' := ⟨_, rfl⟩
      have HM : Hid (m = len - at') := hm
      clear hc fb
      go_enter Try.func36, Try.ntmps36
      go_wp2_with fail
      go_quiet (fail)
      rw [← hm]
      rw [← hm] at HS
      clear hm
      go_wp2_with fail
      go_loopw [5, 27] (fun x y wr => ∃ (acc i d : Nat), x = .int .u64 (acc : Int) ∧ y = .int .i64 (i : Int) ∧ i ≤ 9 ∧ i ≤ m ∧ Hid (acc < 2 ^ (7 * i)) ∧ Hid (pk f len at' 0 = scan (fun i => f (at' + i)) (m - i) i acc) ∧ Hid (wr = w.drewN d)) (fun _ y _ => m - (intOf y).toNat)
      case atStart => exact ⟨0, 0, nq, rfl, rfl, by omega, by omega, by show _ < _; decide, HS, rfl⟩
      case round =>
        clear HS
        obtain ⟨acc, i, d, rfl, rfl, hi9, him, HA, HS, HW⟩ := hrel
        by_cases hlt2 : i < m
        · have hi1 : (i : Int) < (m : Int) := by omega
          obtain ⟨v, hv⟩ : ∃ v, v = f (at' + i) := ⟨_, rfl⟩
          have c1 : wr.cell? ⟨p, off + at' + i, none⟩ = some (.int .u8 ((v : Nat) : Int)) := by
            rw [HW.out, Nat.add_assoc, hv]; exact HC.out (at' + i) (by have := HM.out; omega)
          have hv8 : v < 256 := by rw [hv]; exact HF.out _
          obtain ⟨r, hr⟩ : ∃ r, m - i = r + 1 := ⟨m - i - 1, by omega⟩
          by_cases hbad : badB i v = true
          · have HR : Hid (pk f len at' 0 = (0, 0, 4)) := by show _ = _; rw [HS.out, hr]; exact scan_bad (f := fun i => f (at' + i)) (by rw [← hv]; exact hbad)
            have hb := badB_true hbad
            clear hr hv hbad HS
            rcases hb with ⟨b1, b2⟩ | ⟨b1, b2⟩
            · subst b2
              have j1 : (0 : Int) < (i : Int) := by omega
              go_wp2_with fail
              exact bodyPost_ret (v := .tuple #[.int .i64 0, .int .i64 0, .int .i64 4]) (by simp [results, Try.results36, go_sem]) rfl ⟨pk_ret (c := 0) (s := 0) (e := 4) HR.out rfl, d, HW.out⟩
            · subst b1
              have j1 : ((v : Int) == 0) = false := by simp; omega
              have j2 : (1 : Int) < (v : Int) := by omega
              go_wp2_with fail
              exact bodyPost_ret (v := .tuple #[.int .i64 0, .int .i64 0, .int .i64 4]) (by simp [results, Try.results36, go_sem]) rfl ⟨pk_ret (c := 0) (s := 0) (e := 4) HR.out rfl, d, HW.out⟩
          · have hbad : badB i v = false := by simpa using hbad
            have an := andNot128 v hv8
            obtain ⟨q, hq⟩ : ∃ q, q = v % 128 := ⟨_, rfl⟩
            rw [← hq] at an
            have hq2 : q < 128 := by omega
            obtain ⟨N, hN⟩ : ∃ N, N = acc + q * 2 ^ (7 * i) := ⟨_, rfl⟩
            have hNlt : N < 18446744073709551616 ∧ N < 2 ^ (7 * (i + 1)) := by
              have ha := HA.out
              have e3 : q * 2 ^ (7 * i) ≤ 127 * 2 ^ (7 * i) := Nat.mul_le_mul_right _ (by omega)
              have e4 : 2 ^ (7 * (i + 1)) = 128 * 2 ^ (7 * i) := by rw [show 7 * (i + 1) = 7 + 7 * i by omega, Nat.pow_add]
              refine ⟨?_, by omega⟩
              by_cases h9 : i = 9
              · have hv1 := badB_9 hbad h9
                have : q = 1 := by omega
                rw [h9] at ha
                rw [hN, this, h9]
                simp at ha ⊢; omega
              · have e : 2 ^ (7 * i) ≤ 2 ^ 56 := Nat.pow_le_pow_right (by decide) (by omega)
                have e5 : (2 : Nat) ^ 56 = 72057594037927936 := by decide
                omega
            have hor := orsh acc q i HA.out (by omega)
            rw [← hN] at hor
            have hz : IntKind.u64.wrap ((q : Int) * 2 ^ (7 * i)) = ((q * 2 ^ (7 * i) : Nat) : Int) := by
              rw [IntKind.wrap_u64]
              have e1 : (q : Int) * 2 ^ (7 * i) = ((q * 2 ^ (7 * i) : Nat) : Int) := by rw [Int.natCast_mul, Int.natCast_pow]; rfl
              rw [e1]; omega
            obtain ⟨z, hzz⟩ : ∃ z, z = q * 2 ^ (7 * i) := ⟨_, rfl⟩
            rw [← hzz] at hor hz
            have hwq : IntKind.u64.wrap (q : Int) = (q : Int) := by rw [IntKind.wrap_u64]; omega
            have HNN : Hid (N = acc + q * 2 ^ (7 * i)) := hN
            have HNlt : Hid (N < 18446744073709551616 ∧ N < 2 ^ (7 * (i + 1))) := hNlt
            have HV : Hid (v = f (at' + i)) := hv
            have HQ : Hid (q = v % 128) := hq
            have HR : Hid (m - i = r + 1) := hr
            have HBD : Hid (badB i v = false) := hbad
            have i7 : 7 * (i : Int) ≤ 63 := by omega
            clear hzz hN hNlt hv hq hr hbad
            have hcase : (i = 0) ∨ (i = 9) ∨ (0 < i ∧ i < 9) := by omega
            rcases hcase with hi0 | hi0 | ⟨hi0, hi1'⟩
            case' inl =>
              have j1 : decide (0 < i) = false := by simp; omega
              have j3 : ((i : Int) == 9) = false := by simp; omega
              clear hi0
            case' inr.inl =>
              have hv1 := badB_9 HBD.out hi0
              have j1 : (0 : Int) < (i : Int) := by omega
              have j2 : ((v : Int) == 0) = false := by simp; omega
              have j3 : ((i : Int) == 9) = true := by simp; omega
              have j4 : decide ((1 : Int) < (v : Int)) = false := by simp; omega
              clear hi0 hv1
            case' inr.inr =>
              have j1 : (0 : Int) < (i : Int) := by omega
              have j2 : ((v : Int) == 0) = false := by have := badB_pos HBD.out (by omega); simp; omega
              have j3 : ((i : Int) == 9) = false := by simp; omega
              clear hi0 hi1'
            all_goals
              by_cases h128 : v < 128
              · have k1 : (v : Int) < 128 := by omega
                go_wp2_with fail
                refine (unfolded_any N HNlt.out.1 _).mono ?_
                rintro e w2 ⟨rfl, rfl⟩
                go_wp2_with fail
                refine bodyPost_ret (v := .tuple #[.int .i64 (unf N), .int .i64 ((i : Int) + 1), .int .i64 0]) (by simp [results, Try.results36, go_sem]) rfl ⟨?_, d, HW.out⟩
                refine pk_ret (c := N) (s := i + 1) (e := 0) ?_ rfl
                rw [HS.out, HR.out, scan_end (f := fun i => f (at' + i)) (by rw [← HV.out]; exact HBD.out) (by rw [← HV.out]; exact h128), ← HV.out, HNN.out, HQ.out, Nat.mod_eq_of_lt h128]
              · have k1 : decide ((v : Int) < 128) = false := by simp; omega
                go_wp2_with fail
                refine ⟨⟨N, i + 1, d, rfl, by go_num, ?_, by omega, HNlt.out.2, ?_, HW⟩, by simp [intOf]; omega⟩
                · by_cases e9 : i = 9
                  · have := badB_9 HBD.out e9; omega
                  · omega
                · show _ = _
                  rw [HS.out, HR.out, scan_on (f := fun i => f (at' + i)) (by rw [← HV.out]; exact HBD.out) (by rw [← HV.out]; exact h128), ← HV.out, HNN.out, HQ.out, show m - (i + 1) = r by have := HR.out; omega, show v % 128 = v - 128 by omega]
        · have i2 : decide ((i : Int) < (m : Int)) = false := by simp; omega
          have HR : Hid (pk f len at' 0 = (0, 0, 3)) := by show _ = _; rw [HS.out, show m - i = 0 by omega]; rfl
          clear HS
          go_wp2_with fail
          exact bodyPost_ret (v := .tuple #[.int .i64 0, .int .i64 0, .int .i64 3]) (by simp [results, Try.results36, go_sem]) rfl ⟨pk_ret (c := 0) (s := 0) (e := 3) HR.out rfl, d, HW.out⟩
    · have hle : at' = len := by omega
      subst hle
      have HR : Hid (pk f at' at' 0 = (0, 0, 3)) := by show _ = _; rw [pk_0, Nat.sub_self]; rfl
      have e1 := slice_lo a at' c at' (Nat.le_refl _)
      rw [Nat.sub_self] at e1
      obtain ⟨sa, hsa⟩ : ∃ sa, sa = sl a at' c := ⟨_, rfl⟩
      rw [← hsa] at e1
      clear hsa ra fb
      go_enter Try.func36, Try.ntmps36
      go_wp2_with fail
      go_quiet (fail)
      go_wp2_with fail
      go_loopw [5, 27] (fun x y wr => y = .int .i64 0 ∧ Hid (wr = w.drewN nq)) (fun _ y _ => 0)
      case atStart => exact ⟨rfl, rfl⟩
      case round =>
        obtain ⟨rfl, HW⟩ := hrel
        go_wp2_with fail
        exact bodyPost_ret (v := .tuple #[.int .i64 0, .int .i64 0, .int .i64 3]) (by simp [results, Try.results36, go_sem]) rfl ⟨pk_ret (c := 0) (s := 0) (e := 3) HR.out rfl, nq, HW.out⟩
  · have hw1 : ((wr : Int) != 0) = true := by simp; omega
    have HR : Hid (pk f len at' wr = (0, 0, wr)) := pk_wr hw
    go_enter Try.func36, Try.ntmps36
    go_wp2_with fail
    go_quiet (fail)
    go_wp2_with fail
    exact bodyPost_ret (v := .tuple #[.int .i64 0, .int .i64 0, .int .i64 (wr : Int)]) (by simp [results, Try.results36, go_sem]) rfl ⟨pk_ret (c := 0) (s := 0) (e := wr) HR.out rfl, nq, rfl⟩
end Go.Proofs.Ytcdkpflhpeflcaa
