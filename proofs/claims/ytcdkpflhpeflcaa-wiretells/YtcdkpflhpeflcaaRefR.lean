/-
  THE REFERENCE's READER: fail, Num, Text, End.
-/
import Derived.Test.YtcdkpflhpeflcaaRead
namespace Go.Proofs.Ytcdkpflhpeflcaa
open Go.RowKit

theorem fail_any (R len at' : Nat) (f : Nat → Nat) (e : Nat) (E : Int) (hE : E = (e : Int)) (w : World) (h : IsRd w R f len at' 0) :
    Calls Try.prog 34 #[.pointer (some ⟨R, 0, none⟩), .int .i64 E] w fun x w' => x = .returned (.tuple #[]) ∧ IsRd w' R f len at' e ∧ Turn R w w' := by
  subst hE
  have c2 := h.er
  have z2 := h.f2
  go_enter Try.func34, Try.ntmps34
  go_wp2_with fail
  exact bodyPost_end (v := .tuple #[]) (by simp [results, Try.results34, go_sem]) rfl ⟨rfl, h.setWr, Turn.set R 2 _ _⟩

set_option maxHeartbeats 2000000 in
set_option maxRecDepth 100000 in
theorem rnumr_any (R len at' wr : Nat) (f : Nat → Nat) (w : World) (h : IsRd w R f len at' wr) :
    Calls Try.prog 24 #[.pointer (some ⟨R, 0, none⟩)] w fun e w' => e = .returned (.int .i64 (unf (pk f len at' wr).1)) ∧ IsRd w' R f len (at' + (pk f len at' wr).2.1) (pk f len at' wr).2.2 ∧ Turn R w w' := by
  have hat := h.hat
  have lim := h.lim
  have c1 := h.pl
  have c2 := h.er
  by_cases hw : wr = 0
  · subst hw
    obtain ⟨a, cp, hb, hlc, ra⟩ := h.bs
    have HI : Hid (IsRd w R f len at' 0) := h
    have RA : Hid (RowF w a f len) := ra
    have HF : Hid (∀ i, f i < 256) := h.fb
    have HS : Hid (pk f len at' 0 = scan (fun i => f (at' + i)) (len - at' - 0) 0 0) := pk_0 f len at'
    have C0 : Hid (w.cell? ⟨R, 0, none⟩ = some (.slice a len cp)) := hb
    have C1 : Hid (w.cell? ⟨R, 1, none⟩ = some (.int .i64 ((at' : Nat) : Int))) := c1
    clear h ra
    go_enter Try.func24, Try.ntmps24
    go_wp2_with fail
    go_loopw [3, 4] (fun x y wr => ∃ (acc i d : Nat), x = .int .u64 (acc : Int) ∧ y = .int .i64 (i : Int) ∧ i ≤ 9 ∧ at' + i ≤ len ∧ Hid (acc < 2 ^ (7 * i)) ∧ Hid (pk f len at' 0 = scan (fun i => f (at' + i)) (len - at' - i) i acc) ∧ Hid (wr = w.drewN d)) (fun _ y _ => len - at' - (intOf y).toNat)
    case atStart => exact ⟨0, 0, 0, rfl, rfl, by omega, by omega, by show _ < _; decide, HS, rfl⟩
    case round =>
      clear HS hb c1 c2
      obtain ⟨acc, i, d, rfl, rfl, hi9, him, HA, HS, HW⟩ := hrel
      have c0 : wr.cell? ⟨R, 0, none⟩ = some (.slice a len cp) := by rw [HW.out, World.cell?_drewN]; exact C0.out
      have c1 : wr.cell? ⟨R, 1, none⟩ = some (.int .i64 ((at' : Nat) : Int)) := by rw [HW.out, World.cell?_drewN]; exact C1.out
      by_cases hlt2 : at' + i < len
      · have k1 : decide ((len : Int) ≤ (at' : Int) + (i : Int)) = false := by simp; omega
        obtain ⟨p, off, rfl, hc⟩ : ∃ p off, a = some ⟨p, off, none⟩ ∧ ∀ i, i < len → w.cell? ⟨p, off + i, none⟩ = some (.int .u8 ((f i : Nat) : Int)) := by
          rcases RA.out with r | r
          · exfalso; omega
          · exact r
        have k2 : (at' : Int) + (i : Int) < (len : Int) := by omega
        obtain ⟨v, hv⟩ : ∃ v, v = f (at' + i) := ⟨_, rfl⟩
        have HV : Hid (v = f (at' + i)) := hv
        have c3 : wr.cell? ⟨p, off + (at' + i), none⟩ = some (.int .u8 ((v : Nat) : Int)) := by
          rw [HW.out, World.cell?_drewN, hv]; exact hc (at' + i) hlt2
        have hv8 : v < 256 := by rw [hv]; exact HF.out _
        obtain ⟨r, hr⟩ : ∃ r, len - at' - i = r + 1 := ⟨len - at' - i - 1, by omega⟩
        clear hv hc
        have hz1 := HI.out.f1
        go_wp2_with fail
        go_quiet (fail)
        obtain ⟨nA, rfl⟩ : ∃ nA, nA = nq := ⟨_, rfl⟩
        go_wp2_with fail
        go_quiet (fail)
        have hW2 : (wr.drewN nA).drewN nq = w.drewN (d + nA + nq) := by rw [HW.out, World.drewN_drewN, World.drewN_drewN, Nat.add_assoc]
        rw [hW2]
        obtain ⟨D, hD⟩ : ∃ D, D = d + nA + nq := ⟨_, rfl⟩
        rw [← hD]
        have c5 := C1.out
        clear hW2 hD HW c0 c1 c3 nq nA d k1 k2
        have HI2 : Hid (IsRd (w.drewN D) R f len at' 0) := HI.out.drewN D
        by_cases hbad : badB i v = true
        · have HR : Hid (pk f len at' 0 = (0, 0, 4)) := by show _ = _; rw [HS.out, hr]; exact scan_bad (f := fun i => f (at' + i)) (by rw [← HV.out]; exact hbad)
          have hb := badB_true hbad
          clear hr hbad HS
          have hb : (0 < i ∧ v = 0 ∧ i = 9) ∨ (0 < i ∧ v = 0 ∧ i ≠ 9) ∨ (i = 9 ∧ 1 < v) := by omega
          rcases hb with ⟨b1, b2, b3⟩ | ⟨b1, b2, b3⟩ | ⟨b1, b2⟩
          case' inl =>
            subst b2
            have j1 : (0 : Int) < (i : Int) := by omega
            have j3 : ((i : Int) == 9) = true := by simp; omega
            clear b3
          case' inr.inl =>
            subst b2
            have j1 : (0 : Int) < (i : Int) := by omega
            have j3 : ((i : Int) == 9) = false := by simp; omega
            clear b3
          case' inr.inr =>
            have j3 : ((i : Int) == 9) = true := by simp; omega
            have j2 : (1 : Int) < (v : Int) := by omega
          all_goals
            go_wp2_with fail
            refine (fail_any R len at' f 4 _ rfl _ HI2.out).mono ?_
            rintro e w3 ⟨rfl, h3, t3⟩
            go_wp2_with fail
            go_ret
            rw [HR.out]
            exact ⟨ret_int unf_zero.symm, h3, (Turn.drewN R w D).trans t3⟩
        · have hbad : badB i v = false := by simpa using hbad
          have an := and127' v hv8
          obtain ⟨q, hq⟩ : ∃ q, q = v % 128 := ⟨_, rfl⟩
          rw [← hq] at an
          have hq2 : q < 128 := by omega
          obtain ⟨N, hN⟩ : ∃ N, N = acc + q * 2 ^ (7 * i) := ⟨_, rfl⟩
          have hNlt : N < 18446744073709551616 ∧ N < 2 ^ (7 * (i + 1)) := by
            have ha := HA.out
            have e3 : q * 2 ^ (7 * i) ≤ 127 * 2 ^ (7 * i) := Nat.mul_le_mul_right _ (by omega)
            have e4 : 2 ^ (7 * (i + 1)) = 128 * 2 ^ (7 * i) := by rw [show 7 * (i + 1) = 7 + 7 * i by omega, Nat.pow_add]
            refine ⟨?_, by omega⟩
            by_cases h9 : i = 9
            · have hv1 := badB_9 hbad h9
              have : q = 1 := by omega
              rw [h9] at ha
              rw [hN, this, h9]
              simp at ha ⊢; omega
            · have e : 2 ^ (7 * i) ≤ 2 ^ 56 := Nat.pow_le_pow_right (by decide) (by omega)
              have e5 : (2 : Nat) ^ 56 = 72057594037927936 := by decide
              omega
          have hor := orsh acc q i HA.out (by omega)
          rw [← hN] at hor
          have hz : IntKind.u64.wrap ((q : Int) * 2 ^ (7 * i)) = ((q * 2 ^ (7 * i) : Nat) : Int) := by
            rw [IntKind.wrap_u64]
            have e1 : (q : Int) * 2 ^ (7 * i) = ((q * 2 ^ (7 * i) : Nat) : Int) := by rw [Int.natCast_mul, Int.natCast_pow]; rfl
            rw [e1]; omega
          obtain ⟨z, hzz⟩ : ∃ z, z = q * 2 ^ (7 * i) := ⟨_, rfl⟩
          rw [← hzz] at hor hz
          have hwq : IntKind.u64.wrap (q : Int) = (q : Int) := by rw [IntKind.wrap_u64]; omega
          have HNN : Hid (N = acc + q * 2 ^ (7 * i)) := hN
          have HNlt : Hid (N < 18446744073709551616 ∧ N < 2 ^ (7 * (i + 1))) := hNlt
          have HQ : Hid (q = v % 128) := hq
          have HR : Hid (len - at' - i = r + 1) := hr
          have HBD : Hid (badB i v = false) := hbad
          have i7 : 7 * (i : Int) ≤ 63 := by omega
          have a1 := and1 N hNlt.1
          have hN64 : N < 18446744073709551616 := hNlt.1
          have a2 := inot ((N : Int) / 2) (by omega) (by omega)
          clear hzz hN hNlt hq hr hbad
          have hcase : (i = 0) ∨ (i = 9) ∨ (0 < i ∧ i < 9) := by omega
          rcases hcase with hi0 | hi0 | ⟨hi0, hi1'⟩
          case' inl =>
            have j1 : decide (0 < i) = false := by simp; omega
            have j3 : ((i : Int) == 9) = false := by simp; omega
            clear hi0
          case' inr.inl =>
            have hv1 := badB_9 HBD.out hi0
            have j1 : (0 : Int) < (i : Int) := by omega
            have j2 : ((v : Int) == 0) = false := by simp; omega
            have j3 : ((i : Int) == 9) = true := by simp; omega
            have j4 : decide ((1 : Int) < (v : Int)) = false := by simp; omega
            clear hi0 hv1
          case' inr.inr =>
            have j1 : (0 : Int) < (i : Int) := by omega
            have j2 : ((v : Int) == 0) = false := by have := badB_pos HBD.out (by omega); simp; omega
            have j3 : ((i : Int) == 9) = false := by simp; omega
            clear hi0 hi1'
          all_goals
            by_cases h128 : v < 128
            · have k1 : (v : Int) < 128 := by omega
              have HK : Hid (pk f len at' 0 = (N, i + 1, 0)) := by
                show _ = _
                rw [HS.out, HR.out, scan_end (f := fun i => f (at' + i)) (by rw [← HV.out]; exact HBD.out) (by rw [← HV.out]; exact h128), ← HV.out, HNN.out, HQ.out, Nat.mod_eq_of_lt h128]
              have HI3 : Hid (IsRd ((w.drewN D).setCell ⟨R, 1, none⟩ (.int .i64 ((at' : Int) + (i : Int) + 1))) R f len (at' + (i + 1)) 0) := HI2.out.setAt (k := at' + (i + 1)) (by omega)
              by_cases par : N % 2 = 1
              · have HU : Hid (unf N = -1 - ((N : Int) / 2)) := by show _ = _; unfold unf; rw [if_pos par]; omega
                rw [par] at a1
                clear par
                go_wp2_with fail
                go_ret
                rw [HK.out]
                exact ⟨ret_int HU.out.symm, HI3.out, (Turn.drewN R w D).trans (Turn.set R 1 _ _)⟩
              · have HU : Hid (unf N = ((N : Int) / 2)) := by show _ = _; unfold unf; rw [if_neg par]; omega
                rw [show N % 2 = 0 by omega] at a1
                clear par a2
                go_wp2_with fail
                go_ret
                rw [HK.out]
                exact ⟨ret_int HU.out.symm, HI3.out, (Turn.drewN R w D).trans (Turn.set R 1 _ _)⟩
            · have k1 : decide ((v : Int) < 128) = false := by simp; omega
              go_wp2_with fail
              refine ⟨⟨N, i + 1, D, rfl, by go_num, ?_, by omega, HNlt.out.2, ?_, rfl⟩, by simp [intOf]; omega⟩
              · by_cases e9 : i = 9
                · have := badB_9 HBD.out e9; omega
                · omega
              · show _ = _
                rw [HS.out, HR.out, scan_on (f := fun i => f (at' + i)) (by rw [← HV.out]; exact HBD.out) (by rw [← HV.out]; exact h128), ← HV.out, HNN.out, HQ.out, show len - at' - (i + 1) = r by have := HR.out; omega, show v % 128 = v - 128 by omega]
      · have k1 : (len : Int) ≤ (at' : Int) + (i : Int) := by omega
        have HR : Hid (pk f len at' 0 = (0, 0, 3)) := by show _ = _; rw [HS.out, show len - at' - i = 0 by omega]; rfl
        clear HS
        go_wp2_with fail
        go_quiet (fail)
        have hW2 : wr.drewN nq = w.drewN (d + nq) := by rw [HW.out, World.drewN_drewN]
        rw [hW2]
        have HI2 : Hid (IsRd (w.drewN (d + nq)) R f len at' 0) := HI.out.drewN _
        clear hW2
        go_wp2_with fail
        refine (fail_any R len at' f 3 _ rfl _ HI2.out).mono ?_
        rintro e w3 ⟨rfl, h3, t3⟩
        go_wp2_with fail
        go_ret
        rw [HR.out]
        exact ⟨ret_int unf_zero.symm, h3, (Turn.drewN R w _).trans t3⟩
  · have j1 : ((wr : Int) != 0) = true := by simp; omega
    have HI : Hid (IsRd w R f len at' wr) := h
    have H1 : Hid (pk f len at' wr = (0, 0, wr)) := pk_wr hw
    clear h
    go_enter Try.func24, Try.ntmps24
    go_wp2_with fail
    go_ret
    rw [H1.out]
    exact ⟨ret_int unf_zero.symm, HI.out, Turn.refl _ _⟩
end Go.Proofs.Ytcdkpflhpeflcaa
