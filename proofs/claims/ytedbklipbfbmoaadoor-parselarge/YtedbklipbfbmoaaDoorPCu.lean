/-
  PARSECUTS walked: however bytes are cut into pieces, the events are the same.
-/
import Derived.Test.YtedbklipbfbmoaaDoorPBk
namespace Go.Proofs.YtedbklipbfbmoaaDoor
open Go.RowKit

/-- Nothing of the call's own, ahead of it. -/
def on9 : Nat → Nat × Nat := fun _ => (9, 9)
/-- Two parsers: one was fed the whole, the other what is ahead of fr. -/
structure Cu (w : World) (P Q : Nat) (sL : B) (wr : World) (fr : Nat) (va vb : Value) (o : Nat → Nat × Nat) : Prop where
  ea : Evs wr o (7, 1) va (feed (pz 0) sL).2
  eb : Evs wr o (7, 3) vb (feed (pz 0) (sL.take fr)).2
  ip : ∃ a n c ka kn kc, IsP wr o 1 P (feed (pz 0) sL).1 a n c ka kn kc
  iq : ∃ a n c ka kn kc, IsP wr o 2 Q (feed (pz 0) (sL.take fr)).1 a n c ka kn kc
  tb : Tb wr o
  fr : Fr (· ≠ (9, 9)) on9 o w wr
theorem nine {x : Nat} {te : Nat × Nat} (hx : x < 7) (hte : te.1 = 7) : ∀ t, TF x te t → t ≠ (9, 9) := fun t h e => by
  subst e
  rcases h with h | h
  · have : 9 = x := h
    omega
  · rw [← h] at hte; cases hte
theorem Cu.below {w : World} {P Q : Nat} {sL : B} {wr : World} {fr : Nat} {va vb : Value} {o : Nat → Nat × Nat} (h : Cu w P Q sL wr fr va vb o) : Below w.heap.size w wr := h.fr.below (Nat.le_refl _) (fun _ _ h => h rfl)
/-- One piece more: the second parser is fed it; its events go behind the others. -/
theorem Cu.step {w : World} {P Q : Nat} {sL : B} {wr : World} {fr to : Nat} {va vb : Value} {o : Nat → Nat × Nat} (h : Cu w P Q sL wr fr va vb o) (hft : fr ≤ to) (hsz : sL.length ≤ 6000) {w2 : World} {v2 : Value} {p0 : Ps} (hp0 : (feed (pz 0) (sL.take fr)).1 = p0)
    (hF : FOut wr o 2 Q (7, 2) p0 ((sL.take to).drop fr) v2 w2) :
    ∃ a c w3 o3 n, (Builtin.append_ #[24, 24] 24 #[vb, v2]).run Tryd.prog w2 = .ok (.slice a n c) w3 ∧ Cu w P Q sL w3 to va (.slice a n c) o3 := by
  obtain ⟨o2, a2, n2, c2, ka2, kn2, kc2, E2, I2, F2, T2⟩ := hF
  have g := h.fr.trans (F2.mono (nine (by decide) rfl))
  have eb2 := h.eb.fr F2 (tf_no (by decide) (by decide)) (tf_no (by decide) (by decide))
  have ea2 := h.ea.fr F2 (tf_no (by decide) (by decide)) (tf_no (by decide) (by decide))
  obtain ⟨pa, pn, pc, pka, pkn, pkc, ip⟩ := h.ip
  have ip2 := ip.fr F2 (tf_no (by decide) (by decide)) (tf_no (by decide) (by decide)) (tf_no (by decide) (by decide))
  have e : sL.take to = sL.take fr ++ (sL.take to).drop fr := by
    have h1 := List.take_append_drop fr (sL.take to)
    rw [List.take_take, Nat.min_eq_left hft] at h1
    exact h1.symm
  have e2 : feed (pz 0) (sL.take to) = ((feed p0 ((sL.take to).drop fr)).1, (feed (pz 0) (sL.take fr)).2 ++ (feed p0 ((sL.take to).drop fr)).2) := by
    conv => lhs; rw [e]
    rw [feed_app, hp0]
  have l1 := feed_len (sL.take fr) (pz 0)
  have l2 := feed_len ((sL.take to).drop fr) p0
  rw [List.length_take] at l1
  rw [List.length_drop, List.length_take] at l2
  obtain ⟨a, c, w3, o3, hr, E3, F3⟩ := eb2.join (by decide) E2 (by omega)
  refine ⟨a, c, w3, o3, _, hr, ⟨ea2.fr F3 (by decide) (by decide), by rw [e2]; exact E3, ⟨pa, pn, pc, pka, pkn, pkc, ip2.fr F3 (by decide) (by decide) (by decide)⟩, ⟨a2, n2, c2, ka2, kn2, kc2, by rw [e2]; exact I2.fr F3 (by decide) (by decide) (by decide)⟩, T2.fr F3 (by decide), g.trans (F3.mono (fun t h e => by rw [h] at e; cases e))⟩⟩
theorem below_9 {w w' : World} {o' : Nat → Nat × Nat} (h : Fr (· ≠ (9, 9)) on9 o' w w') : Below w.heap.size w w' := h.below (Nat.le_refl _) (fun _ _ h => h rfl)
theorem two_parsers (w : World) (ht : HasTab w) {Z : Obj} (hZ : Z = Obj.cells ((pz 0).cs (.slice none 0 0) (.slice none 0 0)).toArray 60) {W1 W2 : World} (hW1 : W1 = w.alloc Z) (hW2 : W2 = W1.alloc Z) :
    ∃ o, IsP W2 o 1 w.heap.size (pz 0) none 0 0 none 0 0 ∧ IsP W2 o 2 W1.heap.size (pz 0) none 0 0 none 0 0 ∧ Tb W2 o ∧ Fr (· ≠ (9, 9)) on9 o w W2 := by
  have i1 : IsP W1 (lab on9 w.heap.size (1, 0)) 1 w.heap.size (pz 0) none 0 0 none 0 0 := by rw [hW1, hZ]; exact IsP.new _ _ _
  have f1 : Fr (fun _ => False) on9 (lab on9 w.heap.size (1, 0)) w W1 := by rw [hW1]; exact Fr.new _ _ _ _ _
  have i2 : IsP W2 (lab (lab on9 w.heap.size (1, 0)) W1.heap.size (2, 0)) 2 W1.heap.size (pz 0) none 0 0 none 0 0 := by rw [hW2, hZ]; exact IsP.new _ _ _
  have f2 : Fr (fun _ => False) (lab on9 w.heap.size (1, 0)) (lab (lab on9 w.heap.size (1, 0)) W1.heap.size (2, 0)) W1 W2 := by rw [hW2]; exact Fr.new _ _ _ _ _
  have T0 : Tb w on9 := ⟨ht, rfl⟩
  exact ⟨_, i1.fr f2 id id id, i2, (T0.fr f1 id).fr f2 id, (f1.trans f2).mono (fun _ h => h.elim)⟩
set_option maxRecDepth 100000 in
set_option maxHeartbeats 2000000 in
theorem cuts_walk (s0 : ByteArray) (ca : Option Addr) (len cap : Nat) (z : Nat → Int) (hz : s0.size ≤ maxLen) (_hlen : len ≤ 9223372036854775807) (w : World) (hC : IntsF w ca z len) (ht : HasTab w) :
    Calls Tryd.prog 5 #[.string s0, .slice ca len cap] w fun e w' => e = .returned (.bool true) ∧ Below w.heap.size w w' := by
  have HC := Lib.hid hC
  have HTB := Lib.hid ht
  obtain ⟨Z, hZ⟩ : ∃ Z, Z = Obj.cells ((pz 0).cs (.slice none 0 0) (.slice none 0 0)).toArray 60 := ⟨_, rfl⟩
  obtain ⟨W1, hW1⟩ : ∃ W, W = w.alloc Z := ⟨_, rfl⟩
  obtain ⟨W2, hW2⟩ : ∃ W, W = W1.alloc Z := ⟨_, rfl⟩
  obtain ⟨o2, H2⟩ := two_parsers w ht hZ hW1 hW2
  have HH2 := Lib.hid H2
  rw [hZ] at hW1 hW2
  have HW1 := Lib.hid hW1
  have HW2 := Lib.hid hW2
  have hz2 : s0.size ≤ 9223372036854775807 := by unfold maxLen at hz; omega
  clear hW1 hW2 hZ H2 ht hC hz
  go_enter Tryd.func5, Tryd.ntmps5
  by_cases hbig : 6000 < s0.size
  case' pos =>
    have b1 : decide ((6000 : Int) < (s0.size : Int)) = true := by simp; omega
    have sl : ∀ w : World, (Instr.sliceAt 9 (.string s0) none (some (.int .i64 6000)) none).run Tryd.prog w = .ok (.string (S ((L s0).take 6000))) w := fun w => str_hi s0 6000 (by omega) w
    go_wp2_with fail
    obtain ⟨s, hss⟩ : ∃ s, s = S ((L s0).take 6000) := ⟨_, rfl⟩
    rw [← hss]
    have hs : s.size ≤ 6000 := by rw [hss, S_size, List.length_take]; omega
    clear hss sl b1 hbig hz2
  case' neg =>
    have b1 : decide ((6000 : Int) < (s0.size : Int)) = false := by simp; omega
    go_wp2_with fail
    obtain ⟨s, hss⟩ : ∃ s, s = s0 := ⟨_, rfl⟩
    rw [← hss]
    have hs : s.size ≤ 6000 := by rw [hss]; omega
    clear hss b1 hbig hz2
  all_goals
    refine (new_any w).mono ?_
    rintro e w1 ⟨rfl, hw1⟩
    have : w1 = W1 := by rw [hw1, HW1.out]
    clear hw1
    subst this
    go_wp2_with fail
    refine (new_any w1).mono ?_
    rintro e w2 ⟨rfl, hw2⟩
    have : w2 = W2 := by rw [hw2, HW2.out]
    clear hw2
    subst this
    obtain ⟨P, hP⟩ : ∃ P, P = w.heap.size := ⟨_, rfl⟩
    obtain ⟨Q, hQ⟩ : ∃ Q, Q = w1.heap.size := ⟨_, rfl⟩
    rw [← hP, ← hQ] at HH2
    rw [← hP, ← hQ]
    clear HW1 HW2 hP hQ
    go_wp2_with fail
    refine (feed_any (by decide) (7, 1) rfl (okp_pz 0 (.inl rfl)) s (by omega) w2 HH2.out.1 HH2.out.2.2.1).mono ?_
    rintro e w3 ⟨va, rfl, o3, a3, n3, c3, ka3, kn3, kc3, E3, I3, F3, T3⟩
    obtain ⟨i1, i2, t2, f2⟩ := HH2.out
    have C3 : Cu w P Q (L s) w3 0 va (.slice none 0 0) o3 := ⟨E3, Evs.nil _ _ _, ⟨_, _, _, _, _, _, I3⟩, ⟨_, _, _, _, _, _, i2.fr F3 (tf_no (by decide) (by decide)) (tf_no (by decide) (by decide)) (tf_no (by decide) (by decide))⟩, T3, f2.trans (F3.mono (nine (by decide) rfl))⟩
    obtain ⟨aa, ac, rfl⟩ := E3.form
    obtain ⟨na, hna⟩ : ∃ na, na = (feed (pz 0) (L s)).2.length := ⟨_, rfl⟩
    rw [← hna] at C3 ⊢
    have HC3 := Lib.hid C3
    clear E3 I3 F3 T3 i1 i2 t2 f2 C3 HH2 hna
    go_wp2_with fail
    go_loopw [8, 9, 10] (fun bv fv iv wr => ∃ (i fr nb cb : Nat) (ab : Option Addr) (o : Nat → Nat × Nat), iv = .int .i64 (i : Int) ∧ fv = .int .i64 (fr : Int) ∧ bv = .slice ab nb cb ∧ i ≤ 60 ∧ fr ≤ s.size ∧ Hid (Cu w P Q (L s) wr fr (.slice aa na ac) (.slice ab nb cb) o)) (fun _ _ iv _ => 60 - (intOf iv).toNat)
    case atStart => exact ⟨0, 0, 0, 0, none, o3, rfl, rfl, rfl, by omega, by omega, HC3⟩
    case round =>
      obtain ⟨i, fr, nb, cb, ab, o, rfl, rfl, rfl, hi, hfr, HCU⟩ := hrel
      clear HC3
      by_cases hgo : i < len ∧ i < 60
      · obtain ⟨h1, h2⟩ := hgo
        have g1 : (i : Int) < (len : Int) := by omega
        have g2 : (i : Int) < 60 := by omega
        obtain ⟨cp, coff, rfl, hcc⟩ : ∃ p off, ca = some ⟨p, off, none⟩ ∧ ∀ j, j < len → wr.cell? ⟨p, off + j, none⟩ = some (.int .i64 (z j)) := by
          rcases (HC.out.below HCU.out.below) with h | h
          · omega
          · exact h
        have hci := hcc i h1
        clear hcc
        go_wp2_with fail
        refine (within_any (z i) (fr : Int) (s.size : Int) (by omega) (by omega) (by omega) wr).mono ?_
        rintro e w4 ⟨rfl, rfl⟩
        obtain ⟨b1, b2⟩ := wi_bd (z i) (fr : Int) (s.size : Int) (by omega)
        obtain ⟨to, hto⟩ : ∃ to : Nat, wi (z i) (fr : Int) (s.size : Int) = (to : Int) := ⟨(wi (z i) (fr : Int) (s.size : Int)).toNat, by omega⟩
        rw [hto] at b1 b2 ⊢
        clear hto
        have sm := str_mid s fr to (by omega) (by omega)
        obtain ⟨qa, qn, qc, qka, qkn, qkc, iq⟩ := HCU.out.iq
        have hok : Okp (feed (pz 0) ((L s).take fr)).1 := okp_feed _ (okp_pz 0 (.inl rfl))
        obtain ⟨p0, hp0⟩ : ∃ p0, (feed (pz 0) ((L s).take fr)).1 = p0 := ⟨_, rfl⟩
        rw [hp0] at iq hok
        obtain ⟨str, hstr⟩ : ∃ str, str = S (((L s).take to).drop fr) := ⟨_, rfl⟩
        rw [← hstr] at sm
        have hsz : str.size ≤ 1000000000 := by rw [hstr, S_size, List.length_drop, List.length_take, L_len]; omega
        have HFD := Lib.hid (feed_any (by decide) (7, 2) rfl hok str hsz wr iq HCU.out.tb)
        have HST : Hid (L str = ((L s).take to).drop fr) := Lib.hid (by rw [hstr]; rfl)
        have HP0 := Lib.hid hp0
        have HSL : Hid ((L s).length ≤ 6000) := Lib.hid (by rw [L_len]; exact hs)
        clear iq hok hp0 hstr hsz
        go_wp2_with fail
        refine HFD.out.mono ?_
        rintro e w5 ⟨v5, rfl, F5⟩
        rw [HST.out] at F5
        obtain ⟨a6, c6, w6, o6, n6, hr6, C6⟩ := HCU.out.step (by omega) HSL.out HP0.out F5
        have HC6 := Lib.hid C6
        clear C6 F5 HFD sm hci
        go_wp2_with (at_builtin; refine wpList_append_run rfl (.tmp 46) (.tmp 52) 24 24 rfl _ _ _ rfl rfl hr6 ?_)
        exact ⟨⟨i + 1, to, n6, c6, a6, o6, by go_num, rfl, rfl, by omega, by omega, HC6⟩, by simp [intOf]; omega⟩
      · obtain ⟨qa, qn, qc, qka, qkn, qkc, iq⟩ := HCU.out.iq
        have hok : Okp (feed (pz 0) ((L s).take fr)).1 := okp_feed _ (okp_pz 0 (.inl rfl))
        obtain ⟨p0, hp0⟩ : ∃ p0, (feed (pz 0) ((L s).take fr)).1 = p0 := ⟨_, rfl⟩
        rw [hp0] at iq hok
        have sm := str_lo s fr hfr
        obtain ⟨str, hstr⟩ : ∃ str, str = S ((L s).drop fr) := ⟨_, rfl⟩
        rw [← hstr] at sm
        have hsz : str.size ≤ 1000000000 := by rw [hstr, S_size, List.length_drop, L_len]; omega
        have HFD := Lib.hid (feed_any (by decide) (7, 2) rfl hok str hsz wr iq HCU.out.tb)
        have HST : Hid (L str = ((L s).take s.size).drop fr) := Lib.hid (by rw [hstr, ← L_len, List.take_length]; rfl)
        have HP0 := Lib.hid hp0
        have HSL : Hid ((L s).length ≤ 6000) := Lib.hid (by rw [L_len]; exact hs)
        have HWH : Hid ((L s).take s.size = L s) := Lib.hid (by rw [← L_len]; exact List.take_length)
        clear iq hok hp0 hstr hsz
        have tst : i < len → ¬ i < 60 := fun h1 h2 => hgo ⟨h1, h2⟩
        clear hgo
        by_cases h1 : i < len
        case' pos =>
          have g1 : (i : Int) < (len : Int) := by omega
          have g2 : decide ((i : Int) < 60) = false := by have := tst h1; simp; omega
          go_wp2_with fail
        case' neg =>
          have g1 : decide ((i : Int) < (len : Int)) = false := by simp; omega
          go_wp2_with fail
        all_goals
          refine HFD.out.mono ?_
          rintro e w5 ⟨v5, rfl, F5⟩
          rw [HST.out] at F5
          obtain ⟨a6, c6, w6, o6, n6, hr6, C6⟩ := HCU.out.step hfr HSL.out HP0.out F5
          rw [show (Cu w P Q (L s) w6 s.size (.slice aa na ac) (.slice a6 n6 c6) o6) = Cu w P Q (L s) w6 s.size (.slice aa na ac) (.slice a6 n6 c6) o6 from rfl] at C6
          obtain ⟨ea, eb, ip, iq, tb, f6⟩ := C6
          rw [HWH.out] at eb iq
          have HF6 := Lib.hid f6
          have HSM := Lib.hid (same_evs (kp_feed (L s) (p := pz 0) kp_none) (by have := feed_len (L s) (pz 0); rw [L_len] at this; omega) w6 ea eb)
          obtain ⟨pa, pn, pc, pka, pkn, pkc, ip⟩ := ip
          obtain ⟨qa, qn, qc, qka, qkn, qkc, iq⟩ := iq
          have HIP := Lib.hid ip
          have HIQ := Lib.hid iq
          have HTB6 := Lib.hid tb
          have hpq : pn = qn := ip.len.trans iq.len.symm
          subst hpq
          clear ea eb ip iq tb f6 F5 sm HFD
          go_wp2_with (at_builtin; refine wpList_append_run rfl (.tmp 55) (.tmp 60) 24 24 rfl _ _ _ rfl rfl hr6 ?_)
          refine HSM.out.mono ?_
          rintro e w7 ⟨rfl, b7⟩
          have HB7 := Lib.hid b7
          have HIP7 := Lib.hid (HIP.out.below b7)
          have HIQ7 := Lib.hid (HIQ.out.below b7)
          have HT7 : Hid (HasTab w7) := Lib.hid (HTB6.out.1.below b7)
          clear b7
          obtain ⟨sb, hsb⟩ : ∃ sb, (((((feed (pz 0) (L s)).1.st : Nat) : Int)) == 4) = sb := ⟨_, rfl⟩
          have HSB := Lib.hid hsb
          clear hsb
          have bb : (sb == sb) = true := by simp
          go_wp2_with fail
          refine (shut_any w7 HIP7.out sb HSB.out).mono ?_
          rintro e w8 ⟨rfl, rfl⟩
          go_wp2_with fail
          refine (shut_any w7 HIQ7.out sb HSB.out).mono ?_
          rintro e w8 ⟨rfl, rfl⟩
          go_wp2_with fail
          refine (left_any w7 HIP7.out).mono ?_
          rintro e w8 ⟨rfl, rfl⟩
          go_wp2_with fail
          refine (left_any w7 HIQ7.out).mono ?_
          rintro e w8 ⟨rfl, rfl⟩
          go_wp2_with fail
          refine (runs_any w7 HT7.out).mono ?_
          rintro e w8 ⟨rfl, b8⟩
          have HB8 : Hid (Below w.heap.size w w8) := Lib.hid (((below_9 HF6.out).trans (HB7.out.mono (below_9 HF6.out).size)).trans (b8.mono ((below_9 HF6.out).trans (HB7.out.mono (below_9 HF6.out).size)).size))
          clear b8
          go_wp2_with fail
          go_ret
          exact ⟨rfl, HB8.out⟩
end Go.Proofs.YtedbklipbfbmoaaDoor
