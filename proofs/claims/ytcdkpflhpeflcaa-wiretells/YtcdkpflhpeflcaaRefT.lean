/-
  THE REFERENCE's READER: Text, End.
-/
import Derived.Test.YtcdkpflhpeflcaaRefR
namespace Go.Proofs.Ytcdkpflhpeflcaa
open Go.RowKit

set_option maxHeartbeats 2000000 in
theorem rtextr_any (R len at' wr : Nat) (f : Nat → Nat) (most : Int) (w : World) (h : IsRd w R f len at' wr) :
    Calls Try.prog 25 #[.pointer (some ⟨R, 0, none⟩), .int .i64 most] w fun e w' => e = .returned (.string (txt f len at' wr most).1) ∧ IsRd w' R f len (txt f len at' wr most).2.1 (txt f len at' wr most).2.2 ∧ Turn R w w' := by
  have hat := h.hat
  have lim := h.lim
  have c0 := h.pl
  have HI : Hid (IsRd w R f len at' wr) := h
  have FB : Hid (∀ i, f i < 256) := h.fb
  clear h
  go_enter Try.func25, Try.ntmps25
  go_wp2_with fail
  refine (rnumr_any R len at' wr f _ HI.out).mono ?_
  rintro e w2 ⟨rfl, h2, t2⟩
  have T2 : Hid (Turn R w w2) := t2
  clear t2 HI c0
  rcases pk_cases f len at' wr hat FB.out with ⟨e, h1, k2, h3⟩ | ⟨c, s, h1, rfl, k2, h3, h4⟩
  · have H1 : Hid (txt f len at' wr most = (⟨#[]⟩, at', e)) := txt_err h1 k2
    rw [h1] at h2 ⊢
    have H2 : Hid (IsRd w2 R f len at' e) := h2
    have j1 : ((e : Int) != 0) = true := by simp; omega
    have c2 := h2.er
    clear h1 h3 h2
    go_wp2_with fail
    go_ret
    rw [H1.out]
    exact ⟨rfl, H2.out, T2.out⟩
  · rw [h1] at h2 ⊢
    have H2 : Hid (IsRd w2 R f len (at' + s) 0) := h2
    have H1 : Hid (pk f len at' 0 = (c, s, 0)) := h1
    have c1 := h2.pl
    have c2 := h2.er
    have z1 := h2.f1
    obtain ⟨u, hu⟩ : ∃ u, u = unf c := ⟨_, rfl⟩
    have HU : Hid (u = unf c) := hu
    have hu2 := unf_lo h4
    obtain ⟨A, hA⟩ : ∃ A, A = at' + s := ⟨_, rfl⟩
    rw [← hA] at c1
    have HA : Hid (A = at' + s) := hA
    have hAl : A ≤ len := by omega
    simp only at hu ⊢
    rw [← hu] at hu2 ⊢
    obtain ⟨a, cp, hb, hlc, ra⟩ := h2.bs
    have RA : Hid (RowF w2 a f len) := ra
    clear h1 h4 hu h2 ra hA
    by_cases hlong : u < 0 ∨ most < u
    · have HT : Hid (txt f len at' 0 most = (⟨#[]⟩, at', 2)) := txt_long H1.out (by rw [← HU.out]; exact hlong)
      have hcase : (u < 0) ∨ (¬ u < 0 ∧ most < u) := by omega
      clear hlong
      rcases hcase with g1 | ⟨g1, g2⟩
      case' inr => have g3 : decide (u < (0 : Int)) = false := by simp; omega
      all_goals
        go_wp2_with fail
        refine (fail_any R len (at' + s) f 2 _ rfl _ H2.out).mono ?_
        rintro e w3 ⟨rfl, h3', t3⟩
        have H3 : Hid (IsRd w3 R f len (at' + s) 2) := h3'
        have T3 : Hid (Turn R w w3) := T2.out.trans t3
        have d2 := h3'.er
        have d1 := h3'.pl
        have y1 := h3'.f1
        clear h3' t3 c1 c2 z1 hb
        go_wp2_with fail
        go_ret
        rw [HT.out]
        exact ⟨rfl, H3.out.setAt hat, T3.out.trans (Turn.set R 1 _ _)⟩
    · have j1 : decide (u < (0 : Int)) = false := by simp; omega
      have j2 : decide (most < u) = false := by simp; omega
      obtain ⟨k, rfl⟩ : ∃ k : Nat, u = (k : Int) := ⟨u.toNat, by omega⟩
      by_cases hsh : (len : Int) - (A : Int) < (k : Int)
      · have HT : Hid (txt f len at' 0 most = (⟨#[]⟩, at', 3)) := txt_short H1.out (by rw [← HU.out]; exact hlong) (by rw [← HU.out]; have := HA.out; omega)
        clear hlong
        go_wp2_with fail
        go_quiet (fail)
        go_wp2_with fail
        refine (fail_any R len (at' + s) f 3 _ rfl _ (H2.out.drewN nq)).mono ?_
        rintro e w3 ⟨rfl, h3', t3⟩
        have H3 : Hid (IsRd w3 R f len (at' + s) 3) := h3'
        have T3 : Hid (Turn R w w3) := (T2.out.trans (Turn.drewN R w2 nq)).trans t3
        have d2 := h3'.er
        have d1 := h3'.pl
        have y1 := h3'.f1
        clear h3' t3 c1 c2 z1 hb
        go_wp2_with fail
        go_ret
        rw [HT.out]
        exact ⟨rfl, H3.out.setAt hat, T3.out.trans (Turn.set R 1 _ _)⟩
      · have j3 : decide ((len : Int) - (A : Int) < (k : Int)) = false := by simp; omega
        have HT : Hid (txt f len at' 0 most = (mkS (fun i => f (at' + s + i)) k, at' + s + k, 0)) := txt_ok H1.out HU.out.symm (by rw [← HU.out]; omega) (by have := HA.out; omega)
        have e1 : ∀ w, (Instr.sliceAt 22 (.slice a len cp) (some (.int .i64 (A : Int))) (some (.int .i64 ((A : Int) + (k : Int)))) none).run Try.prog w = .ok (.slice (sl a A cp) k (cp - A)) w := by
          have := slice_lh a len cp A (A + k) (by omega) (by omega)
          rw [show A + k - A = k by omega] at this
          exact this
        obtain ⟨sa, hsa⟩ : ∃ sa, sa = sl a A cp := ⟨_, rfl⟩
        rw [← hsa] at e1
        have r3 : RowF w2 sa (fun i => f (A + i)) k := by
          rw [hsa]
          exact (RA.out.cut A cp hlc).short (by omega)
        have e2 : ∀ d, (convert 22 9 (.slice sa k (cp - A))).run Try.prog (w2.drewN d) = .ok (.string (mkS (fun i => f (A + i)) k)) (w2.drewN d) := fun d =>
          conv_str (w2.drewN d) sa k (cp - A) _ (r3.below (below_drewN (Below.refl _ _) d))
        have HI3 : ∀ d, IsRd ((w2.drewN d).setCell ⟨R, 1, none⟩ (.int .i64 ((A : Int) + (k : Int)))) R f len (at' + s + k) 0 := fun d => by
          have := (H2.out.drewN d).setAt (k := at' + s + k) (by have := HA.out; omega)
          rw [← HA.out] at this
          rw [← HA.out]
          exact this
        have HI4 : Hid (∀ d, IsRd ((w2.drewN d).setCell ⟨R, 1, none⟩ (.int .i64 ((A : Int) + (k : Int)))) R f len (at' + s + k) 0) := HI3
        clear hlong r3 hsa HI3
        go_wp2_with fail
        go_quiet (fail)
        obtain ⟨nA, rfl⟩ : ∃ nA, nA = nq := ⟨_, rfl⟩
        go_wp2_with fail
        go_quiet (fail)
        go_wp2_with fail
        go_ret
        rw [HT.out]
        refine ⟨?_, HI4.out _, T2.out.trans ((Turn.drewN R w2 _).trans (Turn.set R 1 _ _))⟩
        rw [← HA.out]; rfl

set_option maxHeartbeats 1000000 in
theorem rendr_any (R len at' wr : Nat) (f : Nat → Nat) (w : World) (h : IsRd w R f len at' wr) :
    Calls Try.prog 26 #[.pointer (some ⟨R, 0, none⟩)] w fun e w' => e = .returned (.int .i64 ((endE len at' wr : Nat) : Int)) ∧ IsRd w' R f len at' (endE len at' wr) ∧ Turn R w w' := by
  have HI : Hid (IsRd w R f len at' wr) := h
  have hat := h.hat
  have lim := h.lim
  have c1 := h.pl
  have c2 := h.er
  obtain ⟨a, cp, hb, hlc, ra⟩ := h.bs
  clear h ra
  by_cases hw : wr = 0
  · subst hw
    by_cases hl : at' < len
    · have HE : Hid (endE len at' 0 = 5) := by show _ = _; unfold endE; rw [if_pos ⟨rfl, hl⟩]
      have j1 : (at' : Int) < (len : Int) := by omega
      go_enter Try.func26, Try.ntmps26
      go_wp2_with fail
      go_quiet (fail)
      go_wp2_with fail
      refine (fail_any R len at' f 5 _ rfl _ (HI.out.drewN nq)).mono ?_
      rintro e w3 ⟨rfl, h3, t3⟩
      have d2 := h3.er
      have H3 : Hid (IsRd w3 R f len at' 5) := h3
      have T3 : Hid (Turn R w w3) := (Turn.drewN R w nq).trans t3
      clear h3 t3 c1 c2 hb
      go_wp2_with fail
      go_ret
      rw [HE.out]
      exact ⟨rfl, H3.out, T3.out⟩
    · have HE : Hid (endE len at' 0 = 0) := by show _ = _; unfold endE; rw [if_neg (fun h => hl h.2)]
      have j1 : decide ((at' : Int) < (len : Int)) = false := by simp; omega
      go_enter Try.func26, Try.ntmps26
      go_wp2_with fail
      go_quiet (fail)
      go_wp2_with fail
      go_ret
      rw [HE.out]
      exact ⟨rfl, HI.out.drewN nq, Turn.drewN R w nq⟩
  · have HE : Hid (endE len at' wr = wr) := by show _ = _; unfold endE; rw [if_neg (fun h => hw h.1)]
    have j1 : ((wr : Int) == 0) = false := by simp; omega
    go_enter Try.func26, Try.ntmps26
    go_wp2_with fail
    go_quiet (fail)
    go_wp2_with fail
    go_ret
    rw [HE.out]
    exact ⟨rfl, HI.out.drewN nq, Turn.drewN R w nq⟩
end Go.Proofs.Ytcdkpflhpeflcaa
