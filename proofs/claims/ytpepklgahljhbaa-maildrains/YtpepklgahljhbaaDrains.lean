/-
  MAILDRAINS walked.
-/
import Derived.Test.YtpepklgahljhbaaDrs
import Derived.Deep.CutRange
import Derived.Deep.CutBlock
namespace Go.Proofs.Ytpepklgahljhbaa
open Go.Conc Go.RowKit

set_option maxRecDepth 100000 in
set_option maxHeartbeats 16000000 in
theorem drains_walk (k0 : Int) (V : Value) (rl0 : List (List Int)) (w : World) (hR : RowsR w V rl0) (hlen : rl0.length ≤ maxLen) : Calls Try.prog 5 #[.int .i64 k0, V] w fun e w' => e = .returned (.bool true) ∧ Below w.heap.size w w' := by
  obtain ⟨a, cp, rfl, _⟩ := hR.form
  unfold maxLen at hlen
  obtain ⟨n0, hn0⟩ : ∃ n0, n0 = rl0.length := ⟨_, rfl⟩
  rw [← hn0] at hR hlen ⊢
  have hU : (¬ 6 < n0 ∧ True) ∨ (6 < n0 ∧ ∀ w' : World, (Instr.sliceAt 46 (.slice a n0 cp) none (some (.int .i64 6)) none).run Try.prog w' = .ok (.slice a 6 cp) w') := by
    by_cases h : 6 < n0
    · exact .inr ⟨h, (hR.head6 (by omega)).1⟩
    · exact .inl ⟨h, trivial⟩
  obtain ⟨rl, hrl⟩ : ∃ rl, rl = rl0.take 6 := ⟨_, rfl⟩
  obtain ⟨n, hn⟩ : ∃ n, n = rl.length := ⟨_, rfl⟩
  have hnn : n = min 6 n0 := by rw [hn, hrl, List.length_take, hn0]
  have n6 : n ≤ 6 := by omega
  have HR : Hid (RowsR w (.slice a n cp) rl) := by
    by_cases h : 6 < n0
    · have := (hR.head6 (by omega)).2
      rw [show n = 6 by omega, hrl]; exact this
    · rw [show n = n0 by omega, hrl, List.take_of_length_le (by omega)]; exact hR
  have HN : Hid (n = rl.length) := hn
  clear hR hn hrl hn0
  go_enter Try.func5, Try.ntmps5
  go_upto_if 20 with fail
  go_cut [1] from 18 to 180 (fun v wx => v = .slice a n cp ∧ w = wx)
  case first =>
    rcases hU with ⟨hU, _⟩ | ⟨hU, hsl⟩
    · have k1 : decide ((6 : Int) < (n0 : Int)) = false := by simp; omega
      have e0 : n0 = n := by omega
      subst e0
      clear hnn
      go_wp2_with fail
      go_meet
      exact ⟨rfl, rfl⟩
    · have k1 : (6 : Int) < (n0 : Int) := by omega
      have e0 : n = 6 := by omega
      subst e0
      clear hnn
      go_wp2_with fail
      go_meet
      exact ⟨rfl, rfl⟩
  case rest =>
    obtain ⟨rfl, rfl⟩ := hcut
    clear hU hnn
    go_upto_block 0 with fail
    go_cut [5, 6, 7, 8] from 18 to 180 (fun B L _ _ wx => ∃ (ps : List BP) (us : List Value) (o : Nat → Nat × Nat) (ba la : Option Addr) (bc lc : Nat), B = .slice ba n bc ∧ L = .slice la n lc ∧ Hid (Bd w rl wx o n (.slice ba n bc) (.slice la n lc) ps us))
    case first =>
      go_wp2_with fail
      go_loopw [5, 6, 7] (fun B L y wr => ∃ (i : Nat) (ps : List BP) (us : List Value) (o : Nat → Nat × Nat) (ba la : Option Addr) (bc lc : Nat), i ≤ n ∧ B = .slice ba i bc ∧ L = .slice la i lc ∧ y = .int .i64 (i : Int) ∧ Hid (Bd w rl wr o i (.slice ba i bc) (.slice la i lc) ps us)) (fun _ _ y _ => n - (intOf y).toNat)
      case atStart => exact ⟨0, [], [], o0, _, _, _, _, by omega, rfl, rfl, rfl, ⟨rfl, OwnK.nil _ _ _ _, OwnK.nil _ _ _ _, RowsU.nil _ _, Bxs.nil _ _, Fr.refl _ _ _⟩⟩
      case round =>
        obtain ⟨i, ps, us, o, ba, la, bc, lc, hi, rfl, rfl, rfl, HD⟩ := hrel
        by_cases hlt : i < n
        · obtain ⟨l, hl⟩ : ∃ l, rl[i]? = some l := ⟨_, List.getElem?_eq_getElem (by rw [← HN.out]; exact hlt)⟩
          obtain ⟨g, off, b, d, e1, d1, hr⟩ := HR.out.read hl
          subst e1
          have d2 := HD.out.fr.cell d1 (fun x => x rfl)
          have hr2 := hr.fr HD.out.fr (fun x => x rfl)
          have HL : Hid (rl[i]? = some l) := hl
          have hi1 : (i : Int) < (n : Int) := by omega
          clear d1 hr hl
          have HM : Hid (Mk o) := HD.out.fr.mks o0_mk
          go_upto_if 35 with fail
          go_cut [8] from 23 to 61 (fun v wx => ∃ (ua : Option Addr) (uc m : Nat), v = .slice ua m uc ∧ m ≤ 8 ∧ Hid (m = (l.take 8).length) ∧ Hid (IntR wr o (0, 0) (.slice ua m uc) (l.take 8)) ∧ wr = wx)
          case first =>
            by_cases h8 : 8 < l.length
            · obtain ⟨g2, off2, e2, s2, r2⟩ := hr2.head8 h8
              subst e2
              have k1 : (8 : Int) < (l.length : Int) := by omega
              have HR2 : Hid (IntR wr o (0, 0) (.slice (some ⟨g2, off2, none⟩) 8 d) (l.take 8)) := r2
              have HL2 : Hid (8 = (l.take 8).length) := by show _ = _; rw [List.length_take]; omega
              clear hr2 r2
              go_wp2_with fail
              go_meet
              exact ⟨_, _, 8, rfl, by omega, HL2, HR2, rfl⟩
            · have k1 : decide ((8 : Int) < (l.length : Int)) = false := by simp; omega
              have HR2 : Hid (IntR wr o (0, 0) (.slice b l.length d) (l.take 8)) := by rw [List.take_of_length_le (by omega)]; exact hr2
              have HL2 : Hid (l.length = (l.take 8).length) := by rw [List.take_of_length_le (by omega)]; exact rfl
              clear hr2
              go_wp2_with fail
              go_meet
              exact ⟨b, d, l.length, rfl, by omega, HL2, HR2, rfl⟩
          case rest =>
            obtain ⟨ua, uc, m, rfl, hm8, HLL, HRU, rfl⟩ := hcut
            clear hr2 d2
            by_cases h13 : (l.take 8).head? = some 13
            · have he : ent l = [] := by unfold ent; rw [if_pos h13]
              cases hll : l.take 8 with
              | nil => rw [hll] at h13; cases h13
              | cons x xs =>
                rw [hll] at h13 HLL HRU
                simp only [List.head?_cons, Option.some.injEq] at h13
                subst h13
                obtain ⟨_, _, g2, off2, e2, _, _, h4⟩ := HRU.out.there (by simp)
                subst e2
                have c0 := h4 0 13 rfl
                rw [Nat.add_zero] at c0
                have hm1 : (0 : Int) < (m : Int) := by have := HLL.out; simp at this; omega
                obtain ⟨ba', bc', w3, r3, la', lc', w4, o4, r4, D4⟩ := HD.out.step HL.out (by omega) none (.slice none 0 0) (Fr.refl _ _ _) (by rw [he]; exact HD.out.bx.snocNil) (by rw [he]; exact nil_row _ _ _) rfl
                have HD4 : Hid (Bd w rl w4 o4 (i + 1) (.slice ba' (i + 1) bc') (.slice la' (i + 1) lc') (ps ++ [none]) (us ++ [.slice none 0 0])) := D4
                simp only [pv, Option.map] at r3
                clear D4 he hll h4 HRU HLL HD HM
                go_wp2_with (at_builtin; first | refine wpList_append_run rfl (.tmp 47) (.tmp 48) 47 47 rfl _ _ _ rfl rfl r3 ?_ | refine wpList_append_run rfl (.tmp 50) (.tmp 51) 46 46 rfl _ _ _ rfl rfl r4 ?_)
                exact ⟨⟨i + 1, _, _, o4, ba', la', bc', lc', by omega, rfl, rfl, by go_num, HD4⟩, by simp [intOf]; omega⟩
            · have he : ent l = l.take 8 := by unfold ent; rw [if_neg h13]
              have HE : Hid (ent l = l.take 8) := he
              have hw : (m = 0 ∧ True) ∨ (0 < m ∧ ∃ x g2 off2, ua = some ⟨g2, off2, none⟩ ∧ wr.cell? ⟨g2, off2, none⟩ = some (.int .i64 x) ∧ ((x : Int) == 13) = false) := by
                cases hll : l.take 8 with
                | nil => rw [hll] at HLL; exact .inl ⟨HLL.out, trivial⟩
                | cons x xs =>
                  rw [hll] at h13 HLL HRU
                  obtain ⟨_, _, g2, off2, e2, _, _, h4⟩ := HRU.out.there (by simp)
                  have c0 := h4 0 x rfl
                  rw [Nat.add_zero] at c0
                  simp only [List.head?_cons, Option.some.injEq] at h13
                  exact .inr ⟨by have := HLL.out; simp at this; omega, x, g2, off2, e2, c0, by simpa using h13⟩
              clear he h13
              rcases hw with ⟨hm0, _⟩ | ⟨hm0, x, g2, off2, e2, c0, hx⟩
              · subst hm0
                go_wp2_with fail
                refine (filled_any 9 9 rfl (l.take 8) (by omega) (by omega) (by rw [List.length_take]; omega) _ HM.out HRU.out).mono ?_
                rintro e w2 ⟨b4, c4, o2, rfl, I4, F4, hc4⟩
                obtain ⟨ba', bc', w3, r3, la', lc', w4, o4, r4, D4⟩ := HD.out.step HL.out (by omega) (some (b4, c4)) (.slice ua 0 uc) F4 (by rw [HE.out]; exact HD.out.bx.snoc F4 I4 hc4) (by rw [HE.out]; exact HRU.out.fr F4 id) rfl
                have HD4 : Hid (Bd w rl w4 o4 (i + 1) (.slice ba' (i + 1) bc') (.slice la' (i + 1) lc') (ps ++ [some (b4, c4)]) (us ++ [.slice ua 0 uc])) := D4
                simp only [pv, Option.map] at r3
                clear D4 I4 F4 hc4 HRU HLL HD HM HE
                go_wp2_with (at_builtin; first | refine wpList_append_run rfl (.tmp 53) (.tmp 56) 47 47 rfl _ _ _ rfl rfl r3 ?_ | refine wpList_append_run rfl (.tmp 58) (.tmp 60) 46 46 rfl _ _ _ rfl rfl r4 ?_)
                exact ⟨⟨i + 1, _, _, o4, ba', la', bc', lc', by omega, rfl, rfl, by go_num, HD4⟩, by simp [intOf]; omega⟩
              · subst e2
                have hm1 : (0 : Int) < (m : Int) := by omega
                go_wp2_with fail
                clear c0 hx
                refine (filled_any 9 9 rfl (l.take 8) (by omega) (by omega) (by rw [List.length_take]; omega) _ HM.out HRU.out).mono ?_
                rintro e w2 ⟨b4, c4, o2, rfl, I4, F4, hc4⟩
                obtain ⟨ba', bc', w3, r3, la', lc', w4, o4, r4, D4⟩ := HD.out.step HL.out (by omega) (some (b4, c4)) (.slice (some ⟨g2, off2, none⟩) m uc) F4 (by rw [HE.out]; exact HD.out.bx.snoc F4 I4 hc4) (by rw [HE.out]; exact HRU.out.fr F4 id) rfl
                have HD4 : Hid (Bd w rl w4 o4 (i + 1) (.slice ba' (i + 1) bc') (.slice la' (i + 1) lc') (ps ++ [some (b4, c4)]) (us ++ [.slice (some ⟨g2, off2, none⟩) m uc])) := D4
                simp only [pv, Option.map] at r3
                clear D4 I4 F4 hc4 HRU HLL HD HM HE
                go_wp2_with (at_builtin; first | refine wpList_append_run rfl (.tmp 53) (.tmp 56) 47 47 rfl _ _ _ rfl rfl r3 ?_ | refine wpList_append_run rfl (.tmp 58) (.tmp 60) 46 46 rfl _ _ _ rfl rfl r4 ?_)
                exact ⟨⟨i + 1, _, _, o4, ba', la', bc', lc', by omega, rfl, rfl, by go_num, HD4⟩, by simp [intOf]; omega⟩
        · have hin : i = n := by omega
          subst hin
          go_wp2_with fail
          go_meet
          exact ⟨ps, us, o, ba, la, bc, lc, rfl, rfl, HD⟩
    case rest =>
      obtain ⟨ps, us, o, ba, la, bc, lc, rfl, rfl, HD⟩ := hcut
      have hrt : rl.take n = rl := by rw [HN.out, List.take_length]
      have HWK0 : Hid (Wk w ps (rl.map ent) wc o n (.slice ba n bc) (.slice la n lc) (.slice none 0 0) us (rl.map ent, [])) :=
        ⟨HD.out.hp, by rw [List.length_map, HN.out], HD.out.bo, HD.out.le, OwnK.nil _ _ _ _, by have := HD.out.ru; rw [hrt] at this; exact this, by have := HD.out.bx; rw [hrt] at this; exact this, HD.out.fr⟩
      have HT0 : Hid (tot (rl.map ent, []) ≤ 48) := by
        show _ ≤ _
        have := ents_sum rl
        have := HN.out
        unfold tot
        simp only [List.length_nil]
        omega
      obtain ⟨s0, hs0⟩ : ∃ s0 : S, s0 = (rl.map ent, []) := ⟨_, rfl⟩
      have HS0 : Hid (s0 = (rl.map ent, [])) := hs0
      rw [← hs0] at HWK0 HT0
      clear hrt hs0 HD HR
      go_wp2_with fail
      refine (within_any k0 (-2) 30 (by omega) (by omega) (by omega) _).mono ?_
      rintro e w1 ⟨rfl, rfl⟩
      obtain ⟨k, hk⟩ : ∃ k, k = wi k0 (-2) 30 := ⟨_, rfl⟩
      have kb := wi_bd k0 (-2) 30 (by omega)
      rw [← hk] at kb ⊢
      obtain ⟨kl, kh⟩ := kb
      obtain ⟨K, hK⟩ : ∃ K, K = k.toNat := ⟨_, rfl⟩
      have HK : Hid (K = k.toNat) := hK
      clear hk hK
      go_upto_block 2 with fail
      go_cut [10, 11, 12] from 18 to 180 (fun W _ _ wx => ∃ (m q : Nat) (us : List Value) (o : Nat → Nat × Nat) (wa : Option Addr) (wc : Nat), W = .slice wa q wc ∧ q ≤ 48 ∧ Hid (q = (itr K n m s0).2.length) ∧ Hid (rnp K n (itr K n m s0) = itr K n m s0) ∧ Hid (Wk w ps (rl.map ent) wx o n (.slice ba n bc) (.slice la n lc) (.slice wa q wc) us (itr K n m s0)))
      case first =>
        go_wp2_with fail
        go_loopw [10, 11] (fun W mv wx => ∃ (m q : Nat) (us : List Value) (o : Nat → Nat × Nat) (wa : Option Addr) (wc : Nat) (bm : Bool), W = .slice wa q wc ∧ mv = .bool bm ∧ q ≤ 48 ∧ Hid (q = (itr K n m s0).2.length) ∧ Hid (bm = false → rnp K n (itr K n m s0) = itr K n m s0) ∧ Hid (Wk w ps (rl.map ent) wx o n (.slice ba n bc) (.slice la n lc) (.slice wa q wc) us (itr K n m s0))) (fun W mv _ => 2 * (100 - lenV W) + bV mv)
        case atStart => exact ⟨0, 0, us, o, none, 0, true, rfl, rfl, by omega, by show _ = _; rw [HS0.out]; rfl, (fun h => by cases h), HWK0⟩
        case round =>
          clear HWK0
          obtain ⟨m, q, us, o, wa, wc, bm, rfl, rfl, hq, HQ, HX, HW⟩ := hrel
          cases bm with
          | false =>
            go_wp2_with fail
            go_meet
            exact ⟨m, q, us, o, wa, wc, rfl, hq, HQ, HX.out trivial, HW⟩
          | true =>
            by_cases hqk : (q : Int) < k
            · obtain ⟨s, hs⟩ : ∃ s, s = itr K n m s0 := ⟨_, rfl⟩
              rw [← hs] at HQ HW
              have HSS : Hid (s = itr K n m s0) := hs
              have HTT : Hid (∀ j, (rnp K j s).2.length ≤ 48) := fun j => by
                have e1 := rnp_tot K s j
                have e2 := itr_tot K n s0 m
                rw [← hs] at e2
                have := HT0.out
                unfold tot at *
                omega
              have HEND : Hid (∀ p, p = (rnp K n s).2.length → itr K n (m + 1) s0 = rnp K n s ∧ q ≤ p ∧ (p = q → rnp K n (rnp K n s) = rnp K n s)) := fun p hp => by
                refine ⟨by show rnp K n (itr K n m s0) = _; rw [← hs], ?_, fun e => ?_⟩
                · rw [hp, HQ.out]; exact (rnp_grows K s n).1
                · have := (rnp_grows K s n).2 (by rw [← hp, e, HQ.out])
                  rw [this, this]
              clear hs HX
              go_wp2_with fail
              go_loopw [10, 11, 12] (fun W mv y wx => ∃ (j p : Nat) (us : List Value) (o : Nat → Nat × Nat) (wa : Option Addr) (wc : Nat) (bm : Bool), W = .slice wa p wc ∧ mv = .bool bm ∧ y = .int .i64 (j : Int) ∧ j ≤ n ∧ p ≤ 48 ∧ Hid (bm = decide (q < p)) ∧ Hid (p = (rnp K j s).2.length) ∧ Hid (Wk w ps (rl.map ent) wx o n (.slice ba n bc) (.slice la n lc) (.slice wa p wc) us (rnp K j s))) (fun _ _ y _ => n - (intOf y).toNat)
              case atStart => exact ⟨0, q, us, o, wa, wc, false, rfl, rfl, rfl, by omega, hq, by show _ = _; simp, HQ, HW⟩
              case round =>
                clear HW
                obtain ⟨j, p, us, o, wa, wc, bm, rfl, rfl, rfl, hj, hp, HBM, HP, HW⟩ := hrel
                by_cases hlt : j < n
                · have hi1 : (j : Int) < (n : Int) := by omega
                  by_cases hpk : (p : Int) < k
                  · have HKP : Hid (¬ K ≤ (rnp K j s).2.length) := by show ¬ _; rw [← HP.out, HK.out]; omega
                    obtain ⟨l, hl⟩ : ∃ l, (rnp K j s).1[j]? = some l := ⟨_, List.getElem?_eq_getElem (by rw [HW.out.hn]; exact hlt)⟩
                    obtain ⟨g, a2, c2, e1, _, d1, z1, hr⟩ := HW.out.row hl
                    subst e1
                    cases l with
                    | nil =>
                      have HE : Hid (rnp K (j + 1) s = rnp K j s) := st_none hl
                      simp only [List.length_nil] at d1
                      clear hl hr
                      go_wp2_with fail
                      refine ⟨⟨j + 1, p, us, o, wa, wc, bm, rfl, rfl, by go_num, by omega, hp, HBM, ?_, ?_⟩, by simp [intOf]; omega⟩
                      · show _ = _; rw [HE.out]; exact HP.out
                      · show Wk _ _ _ _ _ _ _ _ _ _ _; rw [HE.out]; exact HW.out
                    | cons x xs =>
                      simp only [List.length_cons] at d1 hr
                      have HE : Hid (rnp K (j + 1) s = ((rnp K j s).1.set j xs, (rnp K j s).2 ++ [x])) := st_some HKP.out hl
                      have hx8 : xs.length ≤ 48 := by
                        have e1 := rnp_tot K s j
                        have e2 := itr_tot K n s0 m
                        rw [← HSS.out] at e2
                        have := HT0.out
                        have hs1 := sum_set ((rnp K j s).1.map List.length) j (xs.length + 1) 0 (by simp [hl])
                        unfold tot at *
                        omega
                      obtain ⟨_, _, g2, off2, e2, _, _, h4⟩ := hr.there (by simp)
                      subst e2
                      have c0 := h4 0 x rfl
                      rw [Nat.add_zero] at c0
                      obtain ⟨wa', wc', w3, r3, y1, y2, ua, uc, o3, hsl, W3⟩ := HW.out.step hl hr (by rw [← HP.out]; omega)
                      rw [d1] at y1
                      rw [z1] at y2
                      rw [← HP.out] at r3 W3
                      have hp1 : p + 1 ≤ 48 := by
                        have := HTT.out (j + 1)
                        rw [HE.out] at this
                        simp only [List.length_append, List.length_singleton] at this
                        have := HP.out
                        omega
                      have HW3 : Hid (Wk w ps (rl.map ent) (w3.setCell ⟨g, j, none⟩ (.slice ua xs.length uc)) o3 n (.slice ba n bc) (.slice (some ⟨g, 0, none⟩) n lc) (.slice wa' (p + 1) wc') (us.set j (.slice ua xs.length uc)) (rnp K (j + 1) s)) := by
                        show Wk _ _ _ _ _ _ _ _ _ _ _; rw [HE.out]; exact W3
                      have HP3 : Hid (p + 1 = (rnp K (j + 1) s).2.length) := by
                        show _ = _; rw [HE.out]; simp only [List.length_append, List.length_singleton]; rw [← HP.out]
                      have HB3 : Hid (true = decide (q < p + 1)) := by
                        show _ = _
                        have := (rnp_grows K s j).1
                        rw [← HP.out, ← HQ.out] at this
                        simp; omega
                      obtain ⟨xl, hxl⟩ : ∃ xl, xl = xs.length := ⟨_, rfl⟩
                      rw [← hxl] at d1 hr hsl HW3 y1 hx8
                      clear hl hr h4 W3 HKP HW HBM HE hxl
                      go_wp2_with (at_builtin; refine wpList_append_run rfl (.tmp 89) (.tmp 96) 36 36 rfl _ _ _ rfl rfl r3 ?_)
                      exact ⟨⟨j + 1, p + 1, _, o3, wa', wc', true, rfl, rfl, by go_num, by omega, hp1, HB3, HP3, HW3⟩, by simp [intOf]; omega⟩
                  · have HE : Hid (rnp K n s = rnp K j s) := by
                      have := rnp_more (k := K) (j := j) (s := s) (by rw [← HP.out, HK.out]; omega) (n - j)
                      rw [show j + (n - j) = n by omega] at this
                      exact this
                    obtain ⟨h1, h2, h3⟩ := HEND.out p (by rw [HE.out]; exact HP.out)
                    have H1 : Hid (itr K n (m + 1) s0 = rnp K j s) := by rw [← HE.out]; exact h1
                    have H2 : Hid (q ≤ p) := h2
                    have H3 : Hid (p = q → rnp K n (rnp K j s) = rnp K j s) := by rw [← HE.out]; exact h3
                    clear h1 h2 h3
                    go_wp2_with fail
                    refine ⟨⟨m + 1, p, us, o, wa, wc, bm, rfl, rfl, hp, by rw [H1.out]; exact HP, fun hb => ?_, by rw [H1.out]; exact HW⟩, ?_⟩
                    · rw [H1.out]
                      have h1 := HBM.out
                      have h2 := H2.out
                      rw [hb] at h1
                      exact H3.out (by simp at h1; omega)
                    · have h1 := HBM.out
                      have h2 := H2.out
                      cases bm <;> simp at h1 <;> simp [lenV, bV] <;> omega
                · have hjn : j = n := by omega
                  subst hjn
                  obtain ⟨h1, h2, h3⟩ := HEND.out p HP.out
                  have H1 : Hid (itr K j (m + 1) s0 = rnp K j s) := h1
                  have H2 : Hid (q ≤ p) := h2
                  have H3 : Hid (p = q → rnp K j (rnp K j s) = rnp K j s) := h3
                  clear h1 h2 h3
                  go_wp2_with fail
                  refine ⟨⟨m + 1, p, us, o, wa, wc, bm, rfl, rfl, hp, by rw [H1.out]; exact HP, fun hb => ?_, by rw [H1.out]; exact HW⟩, ?_⟩
                  · rw [H1.out]
                    have h1 := HBM.out
                    have h2 := H2.out
                    rw [hb] at h1
                    exact H3.out (by simp at h1; omega)
                  · have h1 := HBM.out
                    have h2 := H2.out
                    cases bm <;> simp at h1 <;> simp [lenV, bV] <;> omega
            · have hX : Hid (rnp K n (itr K n m s0) = itr K n m s0) := rnp_full (by rw [← HQ.out, HK.out]; omega) n
              go_wp2_with fail
              go_meet
              exact ⟨m, q, us, o, wa, wc, rfl, hq, HQ, hX, HW⟩
      case rest =>
        obtain ⟨m, q, us, o, wa, wk, rfl, hq, HQ, HX, HW⟩ := hcut
        obtain ⟨s, hs⟩ : ∃ s, s = itr K n m s0 := ⟨_, rfl⟩
        have HSS : Hid (s = itr K n m s0) := hs
        rw [← hs] at HQ HX HW
        clear hs HWK0
        go_wp2_with fail
        refine (drain_any k ps (rl.map ent) _ HW.out.bx HW.out.bo.cells (TB.no (by decide) (by decide)) (by rw [HW.out.hp]; omega) (by rw [← HS0.out]; have := HT0.out; omega)).mono ?_
        rintro e w2 ⟨V2, o2, m2, rfl, hfx, O2, B2, F2⟩
        rw [← HK.out, HW.out.hp, ← HS0.out] at hfx O2 B2
        have hit : itr K n m2 s0 = s := by rw [HSS.out]; exact itr_one hfx (by rw [← HSS.out]; exact HX.out)
        rw [hit] at O2 B2
        have HW2 : Hid (Wk w ps s.1 w2 o2 n (.slice ba n bc) (.slice la n lc) (.slice wa q wk) us s) := HW.out.over F2 (TB.no (by decide) (by decide)) (TB.no (by decide) (by decide)) (TB.no (by decide) (by decide)) (TB.no (by decide) (by decide)) B2
        obtain ⟨a2, c2, rfl, _⟩ := O2.form
        have HO2 : Hid (OwnK w2 o2 (7, 2) 9 (.slice a2 s.2.length c2) s.2.length (fc (s.2.map fo))) := O2
        rw [← HQ.out] at HO2
        rw [← HQ.out]
        clear hfx hit O2 B2 F2 HW HT0 HS0 HX HSS
        go_wp2_with fail
        refine (rids_any (t := (7, 2)) (s.2.map fo) (by rw [List.length_map, ← HQ.out]; omega) (by decide) _ (by rw [List.length_map, ← HQ.out]; exact HO2.out)).mono ?_
        rintro e w3 ⟨V3, o3, rfl, O3, F3⟩
        rw [List.length_map, ← HQ.out, show (s.2.map fo).map F.rid = s.2 by simp [fo, Function.comp_def]] at O3
        obtain ⟨a3, c3, rfl, _⟩ := O3.form
        have HR3 : Hid (IntR w3 o3 (7, 1) (.slice a3 q c3) s.2) := O3.row
        have HW3 : Hid (Wk w ps s.1 w3 o3 n (.slice ba n bc) (.slice la n lc) (.slice wa q wk) us s) := HW2.out.over F3 (by decide) (by decide) (by decide) (by decide) (HW2.out.bx.fr F3 (fun _ _ _ x => by cases x) (by decide))
        have HR4 : Hid (IntR w3 o3 (8, 2) (.slice wa q wk) s.2) := HW3.out.wt.row
        clear O3 F3 HW2 HO2
        go_wp2_with fail
        refine (same_any s.2 (by rw [← HQ.out]; omega) _ HR3.out HR4.out).mono ?_
        rintro e w4 ⟨rfl, B4⟩
        have F4 : Fr (fun _ => False) o3 o3 w3 w4 := Fr.ofBelow _ _ B4
        have HW4 : Hid (Wk w ps s.1 w4 o3 n (.slice ba n bc) (.slice la n lc) (.slice wa q wk) us s) := HW3.out.over F4 id id id id (HW3.out.bx.fr F4 (fun _ _ _ => id) id)
        clear B4 F4 HW3 HR3 HR4
        go_upto_block 6 with fail
        go_cut [13, 14] from 18 to 180 (fun f _ wx => ∃ (z : Int) (d : Nat), f = .int .i64 z ∧ Hid (At s.1 n z) ∧ Hid (wx = w4.drewN d))
        case first =>
          go_wp2_with fail
          go_loopw [13, 14] (fun f y wx => ∃ (z : Int) (j d : Nat), f = .int .i64 z ∧ y = .int .i64 (j : Int) ∧ j ≤ n ∧ -1 ≤ z ∧ z ≤ 6 ∧ Hid (At s.1 j z) ∧ Hid (wx = w4.drewN d)) (fun _ y _ => n - (intOf y).toNat)
          case atStart => exact ⟨-1, 0, 0, rfl, rfl, by omega, by omega, by omega, .inl ⟨rfl, fun q h => by omega⟩, rfl⟩
          case round =>
            obtain ⟨z, j, d, rfl, rfl, hj, hz1, hz2, HA, HD⟩ := hrel
            by_cases hlt : j < n
            · obtain ⟨l, hl⟩ : ∃ l, s.1[j]? = some l := ⟨_, List.getElem?_eq_getElem (by rw [HW4.out.hn]; exact hlt)⟩
              have hi1 : (j : Int) < (n : Int) := by omega
              have HWd : Hid (Wk w ps s.1 wr o3 n (.slice ba n bc) (.slice la n lc) (.slice wa q wk) us s) := by
                show Wk _ _ _ _ _ _ _ _ _ _ _
                rw [HD.out]
                exact HW4.out.over (Fr.drewN (fun _ => False) _ _ _) id id id id (HW4.out.bx.fr (Fr.drewN (fun _ => False) _ _ _) (fun _ _ _ => id) id)
              obtain ⟨g, a5, c5, e1, _, d1, _, hr⟩ := HWd.out.row hl
              subst e1
              obtain ⟨pt, hpt⟩ : ∃ pt, ps[j]? = some pt := ⟨_, List.getElem?_eq_getElem (by rw [HWd.out.hp]; exact hlt)⟩
              obtain ⟨gb, capb, e2, _, _, _, _, h6, _⟩ := HWd.out.bo.there (by omega)
              injection e2 with e2 _ e3
              subst e2 e3
              have d2 := h6 j (pv pt) (by simp [hpt])
              have hb1 := HWd.out.bx.at_ j pt l hpt hl
              have HZ : Hid (z = -1 ∨ 0 ≤ z) := by show _ ∨ _; omega
              cases pt with
              | none =>
                have HNL : Hid (l = []) := hb1
                rw [show pv none = .pointer none from rfl] at d2
                clear hpt hb1 h6 HWd
                rcases HZ.out with rfl | hz0
                · cases l with
                  | nil =>
                    have HA2 := HA.out.nil hl
                    have HA3 : Hid (At s.1 (j + 1) (-1)) := HA2
                    simp only [List.length_nil] at d1
                    clear hl HA2 hr
                    go_wp2_with fail
                    go_quiet (fail)
                    go_wp2_with fail
                    exact ⟨⟨-1, j + 1, d + nq, rfl, by go_num, by omega, by omega, by omega, HA3, by show _ = _; rw [HD.out, World.drewN_drewN]⟩, by simp [intOf]; omega⟩
                  | cons x xs => cases HNL.out
                · have HA2 := HA.out.keep hz0
                  have HA3 : Hid (At s.1 (j + 1) z) := HA2
                  have k1 : decide (z < 0) = false := by simp; omega
                  obtain ⟨ll, hle⟩ : ∃ ll, ll = l.length := ⟨_, rfl⟩
                  have HLE : Hid (ll = l.length) := hle
                  rw [← hle] at d1
                  clear hl HA2 hr hle
                  go_wp2_with fail
                  go_quiet (fail)
                  go_wp2_with fail
                  exact ⟨⟨z, j + 1, d + nq, rfl, by go_num, by omega, by omega, by omega, HA3, by show _ = _; rw [HD.out, World.drewN_drewN]⟩, by simp [intOf]; omega⟩
              | some bc4 =>
                obtain ⟨b4, c4⟩ := bc4
                obtain ⟨room, hbx⟩ := hb1
                have IB : Hid (∀ n, IsBox (wr.drewN n) o3 b4 c4 room (l.map fo)) := fun n => hbx.drewN n
                rw [show pv (some (b4, c4)) = .pointer (some ⟨b4, 0, none⟩) from rfl] at d2
                clear hpt hbx h6 HWd
                rcases HZ.out with rfl | hz0
                · cases l with
                  | nil =>
                    have HA2 := HA.out.nil hl
                    have HA3 : Hid (At s.1 (j + 1) (-1)) := HA2
                    simp only [List.length_nil] at d1
                    clear hl HA2 hr
                    go_wp2_with fail
                    go_quiet ((go_at_call 13; exact Calls.quiet_of_same (len_q 0 rfl _ (IB.out _))))
                    go_wp2_with fail
                    exact ⟨⟨-1, j + 1, d + nq, rfl, by go_num, by omega, by omega, by omega, HA3, by show _ = _; rw [HD.out, World.drewN_drewN]⟩, by simp [intOf]; omega⟩
                  | cons x xs =>
                    have HA2 := HA.out.hit hl
                    have HA3 : Hid (At s.1 (j + 1) (j : Int)) := HA2
                    have hll : (0 : Int) < ((x :: xs).length : Int) := by simp
                    clear hl HA2 hr
                    obtain ⟨ll, hle⟩ : ∃ ll, ll = (x :: xs).length := ⟨_, rfl⟩
                    have hbx' := IB.out
                    rw [← hle] at d1 hll
                    have HLE : Hid (ll = (x :: xs).length) := hle
                    clear hle hbx'
                    go_wp2_with fail
                    go_quiet ((go_at_call 13; exact Calls.quiet_of_same (len_q ll HLE.out _ (IB.out _))))
                    go_wp2_with fail
                    exact ⟨⟨(j : Int), j + 1, d + nq, rfl, by go_num, by omega, by omega, by omega, HA3, by show _ = _; rw [HD.out, World.drewN_drewN]⟩, by simp [intOf]; omega⟩
                · have HA2 := HA.out.keep hz0
                  have HA3 : Hid (At s.1 (j + 1) z) := HA2
                  have k1 : decide (z < 0) = false := by simp; omega
                  obtain ⟨ll, hle⟩ : ∃ ll, ll = l.length := ⟨_, rfl⟩
                  have HLE : Hid (ll = l.length) := hle
                  rw [← hle] at d1
                  clear hl HA2 hr hle
                  go_wp2_with fail
                  go_quiet ((go_at_call 13; exact Calls.quiet_of_same (len_q ll HLE.out _ (IB.out _))))
                  go_wp2_with fail
                  exact ⟨⟨z, j + 1, d + nq, rfl, by go_num, by omega, by omega, by omega, HA3, by show _ = _; rw [HD.out, World.drewN_drewN]⟩, by simp [intOf]; omega⟩
            · have hjn : j = n := by omega
              subst hjn
              go_wp2_with fail
              go_meet
              exact ⟨z, d, rfl, HA, HD⟩
        case rest =>
          obtain ⟨z, d, rfl, HA, HD⟩ := hcut
          have HW5 : Hid (Wk w ps s.1 wc o3 n (.slice ba n bc) (.slice la n lc) (.slice wa q wk) us s) := by
            show Wk _ _ _ _ _ _ _ _ _ _ _
            rw [HD.out]
            exact HW4.out.over (Fr.drewN (fun _ => False) _ _ _) id id id id (HW4.out.bx.fr (Fr.drewN (fun _ => False) _ _ _) (fun _ _ _ => id) id)
          clear HW4 HD
          go_wp2_with fail
          refine (first_any ps s.1 _ HW5.out.bx HW5.out.bo.cells (by rw [HW5.out.hp]; omega)).mono ?_
          rintro e w6 ⟨⟨o6, F6⟩, hres⟩
          have HW6 : Hid (OwnK w6 o6 (8, 1) 1 (.slice la n lc) n us ∧ RowsU w6 o6 us s.1 ∧ Fr TN o0 o6 w w6) := ⟨HW5.out.le.fr F6 (TC.no (by decide)), HW5.out.ru.fr F6 (TC.no (by decide)), HW5.out.fr.trans (F6.mono (fun t h e => TC.no (by decide) (e ▸ h)))⟩
          rcases HA.out with ⟨rfl, hall⟩ | ⟨p, x, xs, rfl, hp, hall, hit⟩
          · have hres' : e = .returned (.tuple #[.int .i64 (-1), Z.v, .bool false]) := by
              rcases hres with ⟨i, x, xs, h1, h2, h3⟩ | ⟨_, h⟩
              · have hi := (List.getElem?_eq_some_iff.1 h2).1
                rw [HW5.out.hn] at hi
                rw [hall i hi] at h2
                cases h2
              · exact h
            subst hres'
            have HF7 : Hid (∀ ob, Fr TN o0 o6 w (w6.alloc ob)) := fun ob => HW6.out.2.2.trans (Fr.alloc _ _ _ _)
            clear hres hall F6 HW5 HW6 HA
            simp only [Z, F.v, F.cs]
            go_wp2_with fail
            obtain ⟨Y, eY, yB⟩ : ∃ Y, Y = ({ (w6.alloc (.cells #[.int .i64 0, .int .i64 0, .int .i64 0, .int .i64 0, .int .i64 0, .int .i64 0, .string ⟨#[]⟩, .int .i64 0, .string ⟨#[]⟩] 26)) with drawn := (w6.alloc (.cells #[.int .i64 0, .int .i64 0, .int .i64 0, .int .i64 0, .int .i64 0, .int .i64 0, .string ⟨#[]⟩, .int .i64 0, .string ⟨#[]⟩] 26)).drawn + 1 } : World) ∧ Below w.heap.size w Y :=
              ⟨_, rfl, below_drewN ((HF7.out _).below (Nat.le_refl _) (fun b _ h => h rfl)) 1⟩
            refine region_up (by kernel_rfl) (by kernel_rfl) Y eY ?_
            clear eY HF7
            have ne : Nonempty (Up Y) := ⟨⟨Y, Below.refl _ _⟩⟩
            repeat (go_big_quiet_step (exact runs_up _))
            refine wpQuiet_nil ?_
            rintro w5 ⟨s5, rfl⟩
            have fB : Below w.heap.size w s5.w := yB.trans (s5.h.mono yB.size)
            go_wp2_with fail
            go_ret
            exact ⟨rfl, fB⟩
          · have hres' : e = .returned (.tuple #[.int .i64 (p : Int), (fo x).v, .bool true]) := by
              rcases hres with ⟨i, x', xs', h1, h2, h3⟩ | ⟨h, _⟩
              · have hip : i = p := by
                  rcases Nat.lt_trichotomy i p with h | h | h
                  · rw [hall i h] at h2; cases h2
                  · exact h
                  · rw [h1 p h] at hit; cases hit
                subst hip
                rw [hit] at h2
                injection h2 with h2
                injection h2 with h2
                subst h2
                exact h3
              · rw [h p (by rw [HW5.out.hp]; exact hp)] at hit
                cases hit
            subst hres'
            obtain ⟨a7, c7, hu, hr7⟩ := HW6.out.2.1.form hit
            obtain ⟨g, capl, e2, _, _, _, _, h6, _⟩ := HW6.out.1.there (by omega)
            injection e2 with e2 _ e3
            subst e2 e3
            have d1 := h6 p _ hu
            obtain ⟨_, _, g2, off2, e4, _, _, h4⟩ := hr7.there (by simp)
            subst e4
            have d2 := h4 0 x rfl
            rw [Nat.add_zero] at d2
            obtain ⟨ll, hle⟩ : ∃ ll, ll = (x :: xs).length := ⟨_, rfl⟩
            have hl0 : (0 : Int) < (ll : Int) := by rw [hle]; simp
            rw [← hle] at d1
            obtain ⟨OB, hOB⟩ : ∃ OB, OB = Obj.cells (fo x).cs.toArray 26 := ⟨_, rfl⟩
            have HF7 : Hid (Fr TN o0 o6 w (w6.alloc OB)) := HW6.out.2.2.trans (Fr.alloc _ _ _ _)
            have d1' := cell_alloc OB d1
            have d2' := cell_alloc OB d2
            have d3' : (w6.alloc OB).cell? ⟨w6.heap.size, 3, none⟩ = some (.int .i64 x) := by rw [hOB, World.cell?_alloc_new]; rfl
            have hp1 : (p : Int) < (n : Int) := by omega
            have g0 : decide ((0 : Int) ≤ (p : Int)) = true := by simp
            have g1 : ((p : Int) == (p : Int)) = true := by simp
            have g2' : ((x : Int) == (x : Int)) = true := by simp
            obtain ⟨Y, eY, yB, y1, y2, y3⟩ : ∃ Y, Y = ({ (w6.alloc OB) with drawn := (w6.alloc OB).drawn + 1 } : World) ∧ Below w.heap.size w Y ∧ Y.cell? ⟨g, p, none⟩ = some (.slice (some ⟨g2, off2, none⟩) ll c7) ∧ Y.cell? ⟨g2, off2, none⟩ = some (.int .i64 x) ∧ Y.cell? ⟨w6.heap.size, 3, none⟩ = some (.int .i64 x) :=
              ⟨_, rfl, below_drewN (HF7.out.below (Nat.le_refl _) (fun b _ h => h rfl)) 1, d1', d2', d3'⟩
            have f1 : ∀ s : Up Y, s.w.cell? ⟨g, p, none⟩ = some (.slice (some ⟨g2, off2, none⟩) ll c7) := fun s => s.cell y1
            have f2 : ∀ s : Up Y, s.w.cell? ⟨g2, off2, none⟩ = some (.int .i64 x) := fun s => s.cell y2
            have f3 : ∀ s : Up Y, s.w.cell? ⟨w6.heap.size, 3, none⟩ = some (.int .i64 x) := fun s => s.cell y3
            rw [hOB] at eY
            simp only [fo, F.cs] at eY
            clear hres hall F6 HW5 HW6 HA d1 d2 d1' d2' d3' h6 h4 hr7 hu y1 y2 y3 HF7 hOB hle hit
            simp only [fo, F.v, F.cs]
            go_wp2_with fail
            refine region_up (by kernel_rfl) (by kernel_rfl) Y eY ?_
            clear eY
            have ne : Nonempty (Up Y) := ⟨⟨Y, Below.refl _ _⟩⟩
            repeat (go_big_quiet_step (exact runs_up _))
            refine wpQuiet_nil ?_
            rintro w5 ⟨s5, rfl⟩
            have fB : Below w.heap.size w s5.w := yB.trans (s5.h.mono yB.size)
            go_wp2_with fail
            go_ret
            exact ⟨rfl, fB⟩
end Go.Proofs.Ytpepklgahljhbaa
