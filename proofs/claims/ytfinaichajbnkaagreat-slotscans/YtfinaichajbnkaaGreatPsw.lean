/-
  SlotScans.
-/
import Derived.Test.YtfinaichajbnkaaGreatPrd
import Derived.Test.YtfinaichajbnkaaGreatPop
import Derived.Test.YtfinaichajbnkaaGreatPrn
namespace Go.Proofs.YtfinaichajbnkaaGreat
open Go.RowKit
open Wi (F)
set_option linter.unusedSimpArgs false

theorem lw_new16 (w : World) : Calls Tryz.prog 8 #[.int .i64 1, .int .i64 16, .int .i64 8192] w fun e w' => ∃ X o n, e = .returned (.tuple #[.pointer (some ⟨X, 0, none⟩), .int .i64 0]) ∧ Lw w w' o X (Sl.new 1 16 8192 n) :=
  (pnews_yes 1 16 8192 16 8192 rfl rfl (by omega) (by omega) (by omega) (by omega) (by omega) (by omega) w o00).mono (by
    rintro e w' ⟨X, o', n, rfl, hn, I, g⟩
    exact ⟨X, o', n, rfl, I, g.mono (fun _ e => e.elim)⟩)
theorem str_of_list {a b : ByteArray} (h : a.toList = b.toList) : a = b := by
  rcases bef_total a b with e | e | e
  · exact e
  · unfold bef at e; rw [h, bb_irrefl] at e; cases e
  · unfold bef at e; rw [h, bb_irrefl] at e; cases e
theorem str_nil {k : ByteArray} (h : k.size = 0) : k = ⟨#[]⟩ := by
  obtain ⟨a⟩ := k
  have : a.size = 0 := h
  rw [Array.size_eq_zero_iff] at this
  rw [this]
theorem strc_cons (k : ByteArray) (l : List ByteArray) : strc (k :: l) = .string k :: strc l := by simp [strc]
theorem strc_take (l : List ByteArray) (n : Nat) : strc (l.take n) = (strc l).take n := by simp [strc]
theorem strc_drop (l : List ByteArray) (n : Nat) : strc (l.drop n) = (strc l).drop n := by simp [strc]
theorem nTP5' : ¬ TP (5, 5) := fun h => nTP5 _ h rfl
theorem str_ne_nil {k : ByteArray} (h : ¬ k.size = 0) : ¬ k.toList = [] := fun e => by
  have e0 : (⟨#[]⟩ : ByteArray).toList = [] := by rw [ByteArray.toList_eq]
  exact h (by rw [str_of_list (e.trans e0.symm)]; rfl)
set_option maxRecDepth 100000 in
set_option maxHeartbeats 1000000 in
theorem scans_walk (a0 : Option Addr) (len0 cap0 : Nat) (z0 : Nat → ByteArray) (w : World) (_ : len0 ≤ 9223372036854775807) (h0 : StrF w a0 z0 len0) :
    Calls Tryz.prog 7 #[.slice a0 len0 cap0] w fun e w' => e = .returned (.bool true) ∧ Below w.heap.size w w' := by
  have HA := hid h0
  clear h0
  go_enter Tryz.func7, Tryz.ntmps7
  go_wp2_with fail
  refine (lw_new16 _).mono ?_
  rintro e w0 ⟨X, o0, n, rfl, l0⟩
  have L0 := hid l0
  have ok : OkSp ⟨St.new 16 8192 n, []⟩ := by
    obtain ⟨C, D, d, I⟩ := l0.I
    exact I.st.ok
  obtain ⟨s1, t1, q1⟩ := Sq.begin ok
  have T1 := hid t1
  have Q1 := hid q1
  clear l0 ok t1 q1
  go_wp2_with fail
  refine (ask5_any 1 ⟨#[]⟩ ⟨#[]⟩ 0 _).mono ?_
  rintro e w1 ⟨rfl, b1⟩
  have L1 := hid (L0.out.below b1)
  clear b1
  have TK : Hid (Calls Tryz.prog 9 #[.pointer (some ⟨X, 0, none⟩), .agg #[.int .i64 5, .int .i64 1, .int .i64 3, .int .i64 1, .int .i64 0, .int .i64 0, .string ⟨#[]⟩, .int .i64 0, .string ⟨#[]⟩]] w1 fun e w' => e = .returned (.tuple #[.agg #[.int .i64 6, .int .i64 1, .int .i64 3, .int .i64 1, .int .i64 0, .int .i64 0, .string ⟨#[]⟩, .int .i64 0, .string ⟨#[]⟩], .bool true]) ∧ ∃ o', Lw w w' o' X s1 ∧ Kept w1 o0 w' o') := hid (lw_take L1.out (Nat.zero_le _) (⟨5, 1, 3, 1, 0, 0, ⟨#[]⟩, 0, ⟨#[]⟩⟩ : F) T1.out rfl rfl)
  go_wp2_with fail
  refine TK.out.mono ?_
  rintro e w2 ⟨rfl, o2, l2, k2⟩
  have L2 := hid l2
  clear TK k2 l2
  go_wp2_with fail
  clear L0 L1 T1
  go_loopw [5, 6, 7] (fun y r i wr => ∃ (j rr qq m : Nat) (o : Nat → Nat × Nat) (s : Sl) (K : List ByteArray) (b : Option Addr) (c : Nat), y = .slice b m c ∧ r = .int .i64 (rr : Int) ∧ i = .int .i64 (j : Int) ∧ j ≤ 40 ∧ rr ≤ j + 1 ∧ Hid (K.length = m) ∧ Hid (m ≤ j) ∧ Hid (Lw w wr o X s) ∧ Hid (Sq s n K rr) ∧ Hid (OwnK wr o (7, qq) 1 (.slice b m c) m (strc K))) (fun _ _ i _ => 40 - (intOf i).toNat)
  case atStart => exact ⟨0, 1, 0, 0, o2, s1, [], none, 0, rfl, rfl, rfl, by omega, by omega, rfl, by show (0 : Nat) ≤ 0; omega, L2, Q1, OwnK.nil _ _ _ _⟩
  case round =>
    clear L2 Q1
    obtain ⟨j, rr, qq, m, o, s, K, b, c, rfl, rfl, rfl, hj, hrj, HM, HL, LR, HS, HO⟩ := hrel
    by_cases hlt : j < len0 ∧ j < 40
    · obtain ⟨hl1, hl2⟩ := hlt
      obtain ⟨k, hkz⟩ : ∃ k, k = z0 j := ⟨_, rfl⟩
      rcases HA.out with h0 | ⟨p, off, rfl, hcl⟩
      · omega
      have c0 := cell_b (hcl j hl1) LR.out.fin
      rw [← hkz] at c0
      clear hkz hcl
      have hi1 : (j : Int) < (len0 : Int) := by omega
      have hi2 : (j : Int) < 40 := by omega
      by_cases hk0 : k.size = 0
      · obtain rfl : k = ⟨#[]⟩ := str_nil hk0
        go_wp2_with fail
        exact ⟨⟨j + 1, rr, qq, m, o, s, K, b, c, rfl, rfl, by go_num, by omega, by omega, HM, by show m ≤ j + 1; have := HL.out; omega, LR, HS, HO⟩, by simp [intOf]; omega⟩
      · have tk : ¬ k.toList = [] := str_ne_nil hk0
        by_cases hk2 : k.size ≤ 40
        · have hk3 : ¬ ((40 : Int) < (k.size : Int)) := by omega
          have hk1 : 1 ≤ k.size ∧ k.size ≤ 40 := ⟨by omega, hk2⟩
          replace hk1 := hid hk1
          clear hk0 hk2
          go_wp2_with fail
          · rename_i hbad
            exfalso
            first | exact absurd hbad hk3 | exact absurd (List.isEmpty_iff.1 hbad) tk | (rcases hbad with h | h; exact absurd (List.isEmpty_iff.1 h) tk; exact absurd h hk3)
          obtain ⟨s', v, ht, hq'⟩ := HS.out.put (by omega) (k := k) hk1.out
          have HT := hid ht
          have HQ := hid hq'
          have hdl := HS.out.dl
          clear ht hq'
          refine (askn_any 1 ((rr : Int) + 1) k ⟨#[]⟩ 1 rfl _).mono ?_
          rintro e w3 ⟨rfl, b3⟩
          have TK : Hid (Calls Tryz.prog 9 #[.pointer (some ⟨X, 0, none⟩), .agg #[.int .i64 1, .int .i64 1, .int .i64 3, .int .i64 ((rr : Int) + 1), .int .i64 0, .int .i64 1, .string k, .int .i64 1, .string ⟨#[]⟩]] w3 fun e w' => e = .returned (.tuple #[.agg #[.int .i64 6, .int .i64 1, .int .i64 3, .int .i64 ((rr : Int) + 1), .int .i64 0, .int .i64 1, .string k, .int .i64 v, .string ⟨#[]⟩], .bool true]) ∧ ∃ o', Fr TP o o' w3 w' ∧ Lw w w' o' X s') := hid ((ptake_any X s ⟨1, 1, 3, (rr : Int) + 1, 0, 1, k, 1, ⟨#[]⟩⟩ (by omega) w3 o (LR.out.below b3).I).mono (by
            rintro e w' ⟨rfl, o', I, g⟩
            rw [HT.out] at I ⊢
            exact ⟨rfl, o', g, (LR.out.below b3).fr I g⟩))
          have HO3 := hid (HO.out.below b3)
          clear b3
          go_wp2_with fail
          refine TK.out.mono ?_
          rintro e w4 ⟨rfl, o4, g4, l4⟩
          have HO4 := hid (HO3.out.fr g4 (nTP7' _))
          have L4 := hid l4
          clear TK HO3 HO LR HS HT g4 l4 hdl
          go_wp2_with fail
          obtain ⟨w5, hw5⟩ : ∃ W, W = w4.alloc (.cells #[.int .i64 6, .int .i64 1, .int .i64 3, .int .i64 ((rr : Int) + 1), .int .i64 0, .int .i64 1, .string k, .int .i64 v, .string ⟨#[]⟩] 27) := ⟨_, rfl⟩
          have b5 : Below w4.heap.size w4 w5 := by rw [hw5]; exact bel_alloc _ _
          rw [← hw5]
          replace HO4 := hid (HO4.out.below b5)
          replace L4 := hid (L4.out.below b5)
          clear b5 hw5
          have hm40 := HL.out
          have hmc : m ≤ c := by
            obtain ⟨b', c', e, hc'⟩ := HO4.out.form
            injection e with e1 e2 e3
            omega
          go_loopw [11] (fun y wr' => ∃ p : Nat, y = .int .i64 (p : Int) ∧ Hid (p ≤ rpos k K) ∧ w5 = wr') (fun y _ => m - (intOf y).toNat)
          case atStart => exact ⟨0, rfl, Nat.zero_le _, rfl⟩
          case round =>
            obtain ⟨p, rfl, HP, rfl⟩ := hrel
            have hrl := rpos_le k K
            have hpm : p ≤ m := by have := HP.out; have := HM.out; omega
            clear hrl
            by_cases hpm' : p < m
            · obtain ⟨a, ha⟩ : ∃ a, K[p]? = some a := ⟨_, List.getElem?_eq_getElem (by have := HM.out; omega)⟩
              obtain ⟨g1, e1, d1⟩ := HO4.out.read ha
              subst e1
              have hi1 : (p : Int) < (m : Int) := by omega
              cases hb : bef a k with
              | true =>
                have t1 : Op.bytesLess a.toList k.toList = true := hb
                have HP2 : Hid (p + 1 ≤ rpos k K) := hid (by
                  rcases Nat.lt_or_ge p (rpos k K) with h | h
                  · omega
                  · have : p = rpos k K := by have := HP.out; omega
                    rw [this] at ha
                    rw [rpos_at k K a ha] at hb; cases hb)
                clear ha hb
                go_wp2_with fail
                exact ⟨⟨p + 1, by go_num, HP2, trivial⟩, by simp [intOf]; omega⟩
              | false =>
                have t1 : Op.bytesLess a.toList k.toList = false := hb
                have HE : Hid (p = rpos k K) := hid (by
                  rcases Nat.lt_or_ge p (rpos k K) with h | h
                  · rw [rpos_lt k K p a ha h] at hb; cases hb
                  · have := HP.out; omega)
                by_cases hk : a = k
                · subst hk
                  have HR : Hid (rput a K = K) := hid (by unfold rput; rw [if_pos (by rw [← HE.out, ha])])
                  clear ha hb
                  go_wp2_with fail
                  exact ⟨⟨j + 1, rr + 1, qq, m, o4, s', K, _, c, rfl, by go_num, by go_num, by omega, by omega, HM, by show m ≤ j + 1; omega, L4, by show Sq _ _ _ _; rw [← HR.out]; exact HQ.out, HO4⟩, by simp [intOf]; omega⟩
                · have t2 : (a.toList == k.toList) = false := by
                    cases hq : (a.toList == k.toList) with
                    | false => rfl
                    | true =>
                      have he : a.toList = k.toList := by simpa using hq
                      exact absurd (str_of_list he) hk
                  have HR : Hid (rput k K = K.take p ++ k :: K.drop p) := hid (by
                    unfold rput
                    rw [← HE.out, if_neg (by rw [ha]; exact fun e => hk (by injection e))])
                  clear ha hb
                  have b6 : Below w5.heap.size w5 w5.drew := below_drewN (Below.refl _ _) 1
                  replace HO4 := hid (HO4.out.below b6)
                  replace L4 := hid (L4.out.below b6)
                  clear b6
                  have hsz : w5.drew.heap.size = w5.heap.size := rfl
                  obtain ⟨a1, A1, a2, A2, a3, A3, ra1, ra2, ra3, ea⟩ := ins_strs (t2 := (7, qq + 1)) (by intro e; injection e with _ e; omega) HO4.out p (by omega) (by omega) k
                  obtain ⟨b1, B1, b2, B2, b3, B3, rb1, rb2, rb3, eb⟩ := ins_two (t2 := (7, qq + 1)) (by intro e; injection e with _ e; omega) (by intro e; injection e with e _; omega) HO4.out p (by omega) (by omega) k
                  obtain ⟨c1, C1, c2, C2, c3, C3, rc1, rc2, rc3, ec⟩ := ins_three (t2 := (7, qq + 1)) (by intro e; injection e with _ e; omega) (by intro e; injection e with e _; omega) HO4.out p (by omega) (by omega) k
                  have FIN : ∀ v W, (∃ o3, OwnK W o3 (7, qq + 1) 1 v (m + 1) ((strc K).take p ++ .string k :: (strc K).drop p) ∧ Fr (· = (7, qq + 1)) o4 o3 w5.drew W) → Hid (∃ o5 b5 c5, v = .slice b5 (m + 1) c5 ∧ Lw w W o5 X s' ∧ OwnK W o5 (7, qq + 1) 1 (.slice b5 (m + 1) c5) (m + 1) (strc (rput k K))) := by
                    rintro v W ⟨o3, O3, F3⟩
                    obtain ⟨b5, c5, rfl, _⟩ := O3.form
                    exact ⟨o3, b5, c5, rfl, L4.out.grow F3 (nTP7 _) (n07 _), by
                      rw [HR.out, strc_append, strc_take, strc_cons, strc_drop]
                      exact O3⟩
                  have EA := FIN _ _ ea
                  have EB := FIN _ _ eb
                  have EC := FIN _ _ ec
                  have HM5 : Hid ((rput k K).length = m + 1) := hid (by
                    rw [HR.out, List.length_append, List.length_cons, List.length_take, List.length_drop]
                    have := HM.out; omega)
                  have l1 := sl55 (some ⟨g1, 0, none⟩) m c p (by omega)
                  have l2 := sl55l (some ⟨g1, 0, none⟩) m c p (by omega)
                  rw [hsz] at ra1 rb1 rb2 rc1 rc2
                  clear hsz
                  clear ea eb ec FIN HO4 L4 HM HR HE
                  go_wp2_with fail
                  go_region_law (first
                    | (refine step_appz ra1 (.tmp 95) (.tmp 98) (by rfl) (by rfl) (by rfl) (by rfl) (by simp [Act.eval, Act.put]) (by simp [Act.eval, Act.put]) ?_)
                    | (refine step_appz ra2 (.tmp 99) (.tmp 101) (by rfl) (by rfl) (by rfl) (by rfl) (by simp [Act.eval, Act.put]) (by simp [Act.eval, Act.put]) ?_)
                    | (refine step_appz ra3 (.tmp 102) (.tmp 105) (by rfl) (by rfl) (by rfl) (by rfl) (by simp [Act.eval, Act.put]) (by simp [Act.eval, Act.put]) ?_)
                    | (refine step_appz rb1 (.tmp 95) (.tmp 98) (by rfl) (by rfl) (by rfl) (by rfl) (by simp [Act.eval, Act.put]) (by simp [Act.eval, Act.put]) ?_)
                    | (refine step_appz rb2 (.tmp 99) (.tmp 101) (by rfl) (by rfl) (by rfl) (by rfl) (by simp [Act.eval, Act.put]) (by simp [Act.eval, Act.put]) ?_)
                    | (refine step_appz rb3 (.tmp 102) (.tmp 105) (by rfl) (by rfl) (by rfl) (by rfl) (by simp [Act.eval, Act.put]) (by simp [Act.eval, Act.put]) ?_)
                    | (refine step_appz rc1 (.tmp 95) (.tmp 98) (by rfl) (by rfl) (by rfl) (by rfl) (by simp [Act.eval, Act.put]) (by simp [Act.eval, Act.put]) ?_)
                    | (refine step_appz rc2 (.tmp 99) (.tmp 101) (by rfl) (by rfl) (by rfl) (by rfl) (by simp [Act.eval, Act.put]) (by simp [Act.eval, Act.put]) ?_)
                    | (refine step_appz rc3 (.tmp 102) (.tmp 105) (by rfl) (by rfl) (by rfl) (by rfl) (by simp [Act.eval, Act.put]) (by simp [Act.eval, Act.put]) ?_))
                  all_goals
                    go_wp2_with fail
                    first
                      | (obtain ⟨o5, b5, c5, rfl, L5, O5⟩ := EA.out; exact ⟨⟨j + 1, rr + 1, qq + 1, m + 1, o5, s', rput k K, b5, c5, rfl, by go_num, by go_num, by omega, by omega, HM5, by show m + 1 ≤ j + 1; omega, L5, HQ, O5⟩, by simp [intOf]; omega⟩)
                      | (obtain ⟨o5, b5, c5, rfl, L5, O5⟩ := EB.out; exact ⟨⟨j + 1, rr + 1, qq + 1, m + 1, o5, s', rput k K, b5, c5, rfl, by go_num, by go_num, by omega, by omega, HM5, by show m + 1 ≤ j + 1; omega, L5, HQ, O5⟩, by simp [intOf]; omega⟩)
                      | (obtain ⟨o5, b5, c5, rfl, L5, O5⟩ := EC.out; exact ⟨⟨j + 1, rr + 1, qq + 1, m + 1, o5, s', rput k K, b5, c5, rfl, by go_num, by go_num, by omega, by omega, HM5, by show m + 1 ≤ j + 1; omega, L5, HQ, O5⟩, by simp [intOf]; omega⟩)
            · obtain rfl : p = m := by omega
              have HE : Hid (p = rpos k K) := hid (by have := HP.out; have := rpos_le k K; have := HM.out; omega)
              have HR : Hid (rput k K = K.take p ++ k :: K.drop p) := hid (by
                unfold rput
                rw [← HE.out, if_neg (by rw [List.getElem?_eq_none (by have := HM.out; omega)]; exact fun e => by cases e)])
              have b6 : Below w5.heap.size w5 w5.drew := below_drewN (Below.refl _ _) 1
              replace HO4 := hid (HO4.out.below b6)
              replace L4 := hid (L4.out.below b6)
              clear b6
              have hsz : w5.drew.heap.size = w5.heap.size := rfl
              obtain ⟨a1, A1, a2, A2, a3, A3, ra1, ra2, ra3, ea⟩ := ins_strs (t2 := (7, qq + 1)) (by intro e; injection e with _ e; omega) HO4.out p (by omega) (by omega) k
              obtain ⟨b1, B1, b2, B2, b3, B3, rb1, rb2, rb3, eb⟩ := ins_two (t2 := (7, qq + 1)) (by intro e; injection e with _ e; omega) (by intro e; injection e with e _; omega) HO4.out p (by omega) (by omega) k
              obtain ⟨c1, C1, c2, C2, c3, C3, rc1, rc2, rc3, ec⟩ := ins_three (t2 := (7, qq + 1)) (by intro e; injection e with _ e; omega) (by intro e; injection e with e _; omega) HO4.out p (by omega) (by omega) k
              have FIN : ∀ v W, (∃ o3, OwnK W o3 (7, qq + 1) 1 v (p + 1) ((strc K).take p ++ .string k :: (strc K).drop p) ∧ Fr (· = (7, qq + 1)) o4 o3 w5.drew W) → Hid (∃ o5 b5 c5, v = .slice b5 (p + 1) c5 ∧ Lw w W o5 X s' ∧ OwnK W o5 (7, qq + 1) 1 (.slice b5 (p + 1) c5) (p + 1) (strc (rput k K))) := by
                rintro v W ⟨o3, O3, F3⟩
                obtain ⟨b5, c5, rfl, _⟩ := O3.form
                exact ⟨o3, b5, c5, rfl, L4.out.grow F3 (nTP7 _) (n07 _), by
                  rw [HR.out, strc_append, strc_take, strc_cons, strc_drop]
                  exact O3⟩
              have EA := FIN _ _ ea
              have EB := FIN _ _ eb
              have EC := FIN _ _ ec
              have HM5 : Hid ((rput k K).length = p + 1) := hid (by
                rw [HR.out, List.length_append, List.length_cons, List.length_take, List.length_drop]
                have := HM.out; omega)
              have l1 := sl55 b p c p (by omega)
              have l2 := sl55l b p c p (by omega)
              rw [hsz] at ra1 rb1 rb2 rc1 rc2
              clear hsz
              clear ea eb ec FIN HO4 L4 HM HR HE
              go_wp2_with fail
              go_region_law (first
                | (refine step_appz ra1 (.tmp 95) (.tmp 98) (by rfl) (by rfl) (by rfl) (by rfl) (by simp [Act.eval, Act.put]) (by simp [Act.eval, Act.put]) ?_)
                | (refine step_appz ra2 (.tmp 99) (.tmp 101) (by rfl) (by rfl) (by rfl) (by rfl) (by simp [Act.eval, Act.put]) (by simp [Act.eval, Act.put]) ?_)
                | (refine step_appz ra3 (.tmp 102) (.tmp 105) (by rfl) (by rfl) (by rfl) (by rfl) (by simp [Act.eval, Act.put]) (by simp [Act.eval, Act.put]) ?_)
                | (refine step_appz rb1 (.tmp 95) (.tmp 98) (by rfl) (by rfl) (by rfl) (by rfl) (by simp [Act.eval, Act.put]) (by simp [Act.eval, Act.put]) ?_)
                | (refine step_appz rb2 (.tmp 99) (.tmp 101) (by rfl) (by rfl) (by rfl) (by rfl) (by simp [Act.eval, Act.put]) (by simp [Act.eval, Act.put]) ?_)
                | (refine step_appz rb3 (.tmp 102) (.tmp 105) (by rfl) (by rfl) (by rfl) (by rfl) (by simp [Act.eval, Act.put]) (by simp [Act.eval, Act.put]) ?_)
                | (refine step_appz rc1 (.tmp 95) (.tmp 98) (by rfl) (by rfl) (by rfl) (by rfl) (by simp [Act.eval, Act.put]) (by simp [Act.eval, Act.put]) ?_)
                | (refine step_appz rc2 (.tmp 99) (.tmp 101) (by rfl) (by rfl) (by rfl) (by rfl) (by simp [Act.eval, Act.put]) (by simp [Act.eval, Act.put]) ?_)
                | (refine step_appz rc3 (.tmp 102) (.tmp 105) (by rfl) (by rfl) (by rfl) (by rfl) (by simp [Act.eval, Act.put]) (by simp [Act.eval, Act.put]) ?_))
              all_goals
                go_wp2_with fail
                first
                  | (obtain ⟨o5, b5, c5, rfl, L5, O5⟩ := EA.out; exact ⟨⟨j + 1, rr + 1, qq + 1, p + 1, o5, s', rput k K, b5, c5, rfl, by go_num, by go_num, by omega, by omega, HM5, by show p + 1 ≤ j + 1; omega, L5, HQ, O5⟩, by simp [intOf]; omega⟩)
                  | (obtain ⟨o5, b5, c5, rfl, L5, O5⟩ := EB.out; exact ⟨⟨j + 1, rr + 1, qq + 1, p + 1, o5, s', rput k K, b5, c5, rfl, by go_num, by go_num, by omega, by omega, HM5, by show p + 1 ≤ j + 1; omega, L5, HQ, O5⟩, by simp [intOf]; omega⟩)
                  | (obtain ⟨o5, b5, c5, rfl, L5, O5⟩ := EC.out; exact ⟨⟨j + 1, rr + 1, qq + 1, p + 1, o5, s', rput k K, b5, c5, rfl, by go_num, by go_num, by omega, by omega, HM5, by show p + 1 ≤ j + 1; omega, L5, HQ, O5⟩, by simp [intOf]; omega⟩)
        · have hk3 : (40 : Int) < (k.size : Int) := by omega
          go_wp2_with fail
          exact ⟨⟨j + 1, rr, qq, m, o, s, K, b, c, rfl, rfl, by go_num, by omega, by omega, HM, by show m ≤ j + 1; have := HL.out; omega, LR, HS, HO⟩, by simp [intOf]; omega⟩
    · have hn : ¬ (j : Int) < (len0 : Int) ∨ (j : Int) < (len0 : Int) ∧ ¬ (j : Int) < 40 := by
        rcases Nat.lt_or_ge j len0 with h | h
        · exact .inr ⟨by omega, by omega⟩
        · exact .inl (by omega)
      have hm40 := HL.out
      clear hlt HA HL
      rcases hn with hn | hn
      · go_wp2_with fail
        clear hn
        go_loopw [6, 12, 13] (fun r g f wr' => ∃ (p rr' : Nat) (o' : Nat → Nat × Nat) (s' : Sl) (b' : Option Addr) (c' : Nat), r = .int .i64 (rr' : Int) ∧ g = .slice b' p c' ∧ f = .string (atk K p) ∧ p ≤ m ∧ rr' ≤ 50 + p ∧ Hid (Lw w wr' o' X s') ∧ Hid (Sq s' n K rr') ∧ Hid (OwnK wr' o' (5, 5) 1 (.slice b' p c') p (strc (K.take p))) ∧ Hid (OwnK wr' o' (7, qq) 1 (.slice b m c) m (strc K))) (fun _ g _ _ => m - lenV g)
        case atStart => exact ⟨0, rr, o, s, none, 0, rfl, rfl, rfl, by omega, by omega, LR, HS, OwnK.nil _ _ _ _, HO⟩
        case round =>
          clear LR HS HO
          obtain ⟨p, rr', o', s', b', c', rfl, rfl, rfl, hp, hrr, LR, HS, HG, HO⟩ := hrel
          obtain ⟨hf1, hf2⟩ := HS.out.behind (p := p) (by have := HM.out; omega)
          obtain ⟨fk, hfk⟩ : ∃ fk, atk K p = fk := ⟨_, rfl⟩
          have HFK := hid hfk
          rw [hfk] at hf1 hf2 ⊢
          obtain ⟨s3, ht, hq⟩ := HS.out.scan (by omega) (k := fk) hf2
          rw [hf1] at ht
          obtain ⟨L, hL⟩ : ∃ L, (K.drop p).take 16 = L := ⟨_, rfl⟩
          rw [hL] at ht
          obtain ⟨dd, hdd⟩ : ∃ dd, bs (txs L) = dd := ⟨_, rfl⟩
          rw [hdd] at ht
          have HT := hid ht
          have HQ := hid hq
          have HLL := hid hL
          have HDD := hid hdd
          have hdl : Hid (s'.done.length ≤ 90000) := hid (by have := HS.out.dl; omega)
          clear ht hq hL hdd hfk hf1 hf2 HS
          have p50 : ¬ ((50 : Int) < (p : Int)) := by omega
          go_wp2_with fail
          obtain ⟨V1, hV1⟩ : ∃ V, V = wr.alloc (.cells #[.int .i64 4, .int .i64 1, .int .i64 3, .int .i64 ((rr' : Int) + 1), .int .i64 0, .int .i64 0, .string fk, .int .i64 0, .string ⟨#[]⟩] 27) := ⟨_, rfl⟩
          have b1 : Below wr.heap.size wr V1 := by rw [hV1]; exact bel_alloc _ _
          rw [← hV1]
          have L1 := hid (LR.out.below b1)
          have G1 := hid (HG.out.below b1)
          have O1 := hid (HO.out.below b1)
          clear b1 hV1 LR HG HO
          have TK : Hid (Calls Tryz.prog 9 #[.pointer (some ⟨X, 0, none⟩), .agg #[.int .i64 4, .int .i64 1, .int .i64 3, .int .i64 ((rr' : Int) + 1), .int .i64 0, .int .i64 0, .string fk, .int .i64 0, .string ⟨#[]⟩]] V1 fun e w' => e = .returned (.tuple #[.agg #[.int .i64 6, .int .i64 1, .int .i64 3, .int .i64 ((rr' : Int) + 1), .int .i64 0, .int .i64 0, .string fk, .int .i64 0, .string dd], .bool true]) ∧ ∃ o2, Fr TP o' o2 V1 w' ∧ Lw w w' o2 X s3) := hid ((ptake_any X s' ⟨4, 1, 3, (rr' : Int) + 1, 0, 0, fk, 0, ⟨#[]⟩⟩ hdl.out V1 o' L1.out.I).mono (by
            rintro e w' ⟨rfl, o2, I, g⟩
            rw [HT.out] at I ⊢
            exact ⟨rfl, o2, g, L1.out.fr I g⟩))
          refine TK.out.mono ?_
          rintro e w4 ⟨rfl, o4, g4, l4⟩
          have L4 := hid l4
          have G4 := hid (G1.out.fr g4 nTP5')
          have O4 := hid (O1.out.fr g4 (nTP7' _))
          clear TK L1 G1 O1 HT g4 l4 hdl
          by_cases hpm : p = m
          · subst hpm
            obtain rfl : dd = ⟨#[]⟩ := by
              have := HLL.out
              rw [List.drop_eq_nil_of_le (by have := HM.out; omega), List.take_nil] at this
              rw [← HDD.out, ← this]; rfl
            go_upto_region 33 with fail
            obtain ⟨V2, hV2⟩ : ∃ V, V = w4.alloc (.cells #[.int .i64 6, .int .i64 1, .int .i64 3, .int .i64 ((rr' : Int) + 1), .int .i64 0, .int .i64 0, .string fk, .int .i64 0, .string ⟨#[]⟩] 27) := ⟨_, rfl⟩
            have b2 : Below w4.heap.size w4 V2 := by rw [hV2]; exact bel_alloc _ _
            rw [← hV2]
            have LF := hid (L4.out.below b2).fin
            have SM := hid (same_any K (by have := HM.out; omega) V2 (V1 := .slice b' p c') (V2 := .slice b p c) (by
              have := G4.out.below b2
              rw [List.take_of_length_le (by have := HM.out; omega)] at this
              rw [HM.out]; exact this) (by
              have := O4.out.below b2
              rw [HM.out]; exact this))
            clear b2 hV2 L4 G4 O4
            go_wp2_with (first
              | (go_at_call 25; refine SM.out.mono ?_; rintro e w' ⟨rfl, bs'⟩)
              | (go_at_call 3; refine (runs_any _).mono ?_; rintro e w' ⟨rfl, br⟩))
            go_ret
            exact ⟨rfl, (LF.out.trans (bs'.mono LF.out.size)).trans (br.mono (LF.out.trans (bs'.mono LF.out.size)).size)⟩
          · have hpl : p < m := by omega
            have hne : ¬ dd.toList = [] := str_ne_nil (by
              rw [← HDD.out, bs_size]
              have h0 : 0 < L.length := by rw [← HLL.out, List.length_take, List.length_drop]; have := HM.out; omega
              have := txs_at_lt h0
              omega)
            have hne2 : dd.toList.isEmpty = false := by
              cases hq : dd.toList.isEmpty with
              | false => rfl
              | true => exact absurd (List.isEmpty_iff.1 hq) hne
            clear hne
            go_upto_region 29 with fail
            obtain ⟨o5, ho5⟩ : ∃ o5, o5 = nwl o4 w4.heap.size := ⟨_, rfl⟩
            obtain ⟨B, hB⟩ : ∃ B, B = w4.heap.size := ⟨_, rfl⟩
            obtain ⟨w5, hw5⟩ : ∃ V, V = w4.alloc (.cells #[.int .i64 6, .int .i64 1, .int .i64 3, .int .i64 ((rr' : Int) + 1), .int .i64 0, .int .i64 0, .string fk, .int .i64 0, .string dd] 27) := ⟨_, rfl⟩
            have q := L4.out.box ⟨6, 1, 3, (rr' : Int) + 1, 0, 0, fk, 0, dd⟩
            rw [show (⟨6, 1, 3, (rr' : Int) + 1, 0, 0, fk, 0, dd⟩ : F).cs.toArray = #[.int .i64 6, .int .i64 1, .int .i64 3, .int .i64 ((rr' : Int) + 1), .int .i64 0, .int .i64 0, .string fk, .int .i64 0, .string dd] from rfl, ← hw5, ← ho5, ← hB] at q
            rw [← hw5, ← hB]
            have g5 : Fr (fun _ => False) o4 o5 w4 w5 := by rw [ho5]; exact nwl_fr _ o4 (by rw [hw5]; exact bel_alloc _ _)
            have L5 := hid q.1
            have K5 := hid q.2.1.k
            have G5 := hid (G4.out.fr g5 id)
            have O5 := hid (O4.out.fr g5 id)
            clear q g5 ho5 hw5 hB L4 G4 O4
            obtain ⟨cap, w6, hc, hcap, r6, b6⟩ := conv_bytes w5 dd
            have x8 := K5.out.q 8 _ rfl
            have HRD := hid (read_any2 (some ⟨w5.heap.size, 0, none⟩) dd.size cap (Wi.bt dd) (Wi.bt_lt dd) (by
              rw [← HDD.out, bs_size]
              have h1 := txs_len (l := L) (M := 40) (fun k hk => HQ.out.sz k (by
                rw [← HLL.out] at hk
                exact List.mem_of_mem_drop (List.mem_of_mem_take hk)) |>.2) (by omega)
              have h2 : L.length ≤ 16 := by rw [← HLL.out, List.length_take]; omega
              have h3 : L.length * (40 + 10) ≤ 16 * (40 + 10) := Nat.mul_le_mul_right _ h2
              omega) w6 r6)
            have L6 := hid (L5.out.below b6)
            have K6 := hid (K5.out.below b6)
            have G6 := hid (G5.out.below b6)
            have O6 := hid (O5.out.below b6)
            clear r6 b6 L5 K5 G5 O5
            go_wp2_with fail
            refine HRD.out.mono ?_
            rintro e w7 ⟨R, rfl, hR, i7, b7, h7⟩
            obtain ⟨o7, ho7⟩ : ∃ o7, o7 = nwt (4, 4) o5 w6.heap.size := ⟨_, rfl⟩
            have g7 : Fr (fun _ => False) o5 o7 w6 w7 := by rw [ho7]; exact nwt_fr _ _ o5 b7
            have R7 : Hid (Rdr w7 o7 R (Wi.bt dd) dd.size (txs (L.take 0)).length) := hid (by
              rw [ho7, List.take_zero]; exact Rdr.new o5 hR i7 h7)
            have L7 := hid (L6.out.grow g7 (fun _ _ => id) id)
            have K7 := hid (K6.out.fr g7 id)
            have G7 := hid (G6.out.fr g7 id)
            have O7 := hid (O6.out.fr g7 id)
            have hql : Hid (L.length = min 16 (m - p)) := hid (by rw [← HLL.out, List.length_take, List.length_drop, HM.out])
            obtain ⟨qn, hqn⟩ : ∃ qn, L.length = qn := ⟨_, rfl⟩
            have hq1 : 1 ≤ qn := by have := hql.out; omega
            have hq2 : p + qn ≤ m := by have := hql.out; omega
            have HQN := hid hqn
            clear HRD hc x8 L6 K6 G6 O6 g7 ho7 i7 b7 h7 hR hql hqn hcap
            go_wp2_with fail
            go_loopw [12, 13] (fun g f wr => ∃ (i : Nat) (o' : Nat → Nat × Nat) (b' : Option Addr) (c' : Nat), g = .slice b' (p + i) c' ∧ f = .string (atk K (p + i)) ∧ i ≤ qn ∧ Hid (Lw w wr o' X s3) ∧ Hid (KB wr o' B ⟨6, 1, 3, (rr' : Int) + 1, 0, 0, fk, 0, dd⟩) ∧ Hid (Rdr wr o' R (Wi.bt dd) dd.size (txs (L.take i)).length) ∧ Hid (OwnK wr o' (5, 5) 1 (.slice b' (p + i) c') (p + i) (strc (K.take (p + i)))) ∧ Hid (OwnK wr o' (7, qq) 1 (.slice b m c) m (strc K))) (fun g _ _ => p + qn - lenV g)
            case atStart => exact ⟨0, o7, b', c', rfl, by rw [Nat.add_zero, HFK.out], by omega, L7, K7, R7, G7, O7⟩
            case round =>
              clear L7 K7 R7 G7 O7
              obtain ⟨i, o8, b8, c8, rfl, rfl, hi, L8, K8, R8, G8, O8⟩ := hrel
              obtain ⟨at', hat⟩ : ∃ a, (txs (L.take i)).length = a := ⟨_, rfl⟩
              have HAT := hid hat
              rw [hat] at R8
              have DSZ : Hid (dd.size = (txs L).length) := hid (by rw [← HDD.out, bs_size])
              have x8 := K8.out.q 8 _ rfl
              have he1 := R8.out.i.pl
              have he2 : wr.cell? ⟨R, 2, none⟩ = some (.int .i64 0) := R8.out.i.er
              by_cases hiq : i < qn
              · obtain ⟨k, hk⟩ : ∃ k, L[i]? = some k := ⟨_, List.getElem?_eq_getElem (by rw [HQN.out]; exact hiq)⟩
                have HK : Hid (K[p + i]? = some k) := hid (by
                  rw [← HLL.out, List.getElem?_take] at hk
                  split at hk
                  · rw [List.getElem?_drop] at hk; exact hk
                  · cases hk)
                have hlt : (at' : Int) < (dd.size : Int) := by
                  have := txs_at_lt (L := L) (i := i) (by rw [HQN.out]; exact hiq)
                  have := DSZ.out; omega
                have HTX := txt_at hk (by
                  have := HQ.out.sz k (List.mem_of_getElem? HK.out)
                  omega)
                rw [HDD.out, hat] at HTX
                have hgl : p + i + 1 ≤ 1000000 := by omega
                replace HTX := hid HTX
                clear hk hat HAT
                go_wp2_with fail
                go_quiet (first
                  | (go_at_call 22; exact Calls.quiet_of_same (prdat_any R at' _ (by simpa using he1)))
                  | (go_at_call 23; exact Calls.quiet_of_same (prdwrong0 R _ (by simpa using he2))))
                go_wp2_with fail
                have b9 := below_drewN (Below.refl wr.heap.size wr) nq
                have TX := hid (Wi.rdtext_any R dd.size at' 0 (Wi.bt dd) 250 (wr.drewN nq) (R8.out.i.drewN nq))
                rw [HTX.out] at TX
                have L9 := hid (L8.out.below b9)
                have K9 := hid (K8.out.below b9)
                have R9 := hid (R8.out.fr (Fr.ofBelow (fun _ => False) o8 b9) id)
                have G9 := hid (G8.out.below b9)
                have O9 := hid (O8.out.below b9)
                clear b9 L8 K8 R8 G8 O8 x8 he1 he2 HTX hlt
                refine TX.out.mono ?_
                rintro e w10 ⟨rfl, i10, t10⟩
                have g10 := turn_fr t10 R9.out.lb
                have L10 := hid (L9.out.grow g10 nTP4 (by intro e; injection e with e _; omega))
                have K10 := hid (K9.out.fr g10 (by intro e; injection e with e _; omega))
                have R10 := hid (R9.out.turn t10 i10)
                have G10 := hid (G9.out.fr g10 (by intro e; injection e with e _; omega))
                have O10 := hid (O9.out.fr g10 (by intro e; injection e with e _; omega))
                clear TX i10 t10 g10 L9 K9 R9 G9 O9
                obtain ⟨v11, w11, o11, hrun, O11, F11⟩ := app_one 55 9 (.string ⟨#[]⟩) 16 und55 inf9 (by kernel_rfl) G10.out [.string k] rfl (fun u hu => by simp at hu; rw [hu]; rfl) (by omega) (by omega)
                have L11 := hid (L10.out.grow F11 nTP5 (by intro e; injection e with e _; omega))
                have K11 := hid (K10.out.fr F11 (by intro e; injection e with e _; omega))
                have R11 := hid (R10.out.fr F11 (by intro e; injection e with e _; omega))
                have O12 := hid (O10.out.fr F11 (by intro e; injection e with e _; omega))
                obtain ⟨b11, c11, rfl, _⟩ := O11.form
                have G11 : Hid (OwnK w11 o11 (5, 5) 1 (.slice b11 (p + i + 1) c11) (p + i + 1) (strc (K.take (p + i + 1)))) := hid (by
                  rw [List.take_add_one, HK.out, strc_append]; exact O11)
                have HFK2 : Hid (k = atk K (p + (i + 1))) := hid (by
                  unfold atk
                  rw [if_neg (by omega), show p + (i + 1) - 1 = p + i by omega, List.getD_eq_getElem?_getD, HK.out]; rfl)
                clear O11 F11 L10 K10 R10 G10 O10
                go_wp2_with (at_builtin; refine wpList_append_run rfl (.tmp 145) (.tmp 147) 55 55 rfl _ _ _ rfl rfl hrun ?_)
                exact ⟨⟨i + 1, o11, b11, c11, rfl, by rw [← HFK2.out], by omega, L11, K11, R11, G11, O12⟩, by simp [lenV]; omega⟩
              · have hlt : ¬ ((at' : Int) < (dd.size : Int)) := by
                  have : i = qn := by omega
                  subst this
                  have h := HAT.out
                  rw [List.take_of_length_le (by rw [HQN.out]; exact Nat.le_refl _)] at h
                  have := DSZ.out; omega
                have hlt2 : decide (at' < dd.size) = false := by rw [decide_eq_false_iff_not]; omega
                go_wp2_with fail
                go_big_quiet (first
                  | exact Calls.quiet_of_same (prdat_any R at' _ (by simpa using he1))
                  | exact Calls.quiet_of_same (prdwrong0 R _ (by simpa using he2)))
                go_wp2_with fail
                have b9 := below_drewN (Below.refl wr.heap.size wr) nq
                have : i = qn := by omega
                subst this
                exact ⟨⟨p + i, rr' + 1, o8, s3, b8, c8, by go_num, rfl, rfl, by omega, by omega, L8.out.below b9, HQ, G8.out.below b9, O8.out.below b9⟩, by simp [lenV]; omega⟩
      · go_wp2_with fail
        clear hn
        go_loopw [6, 12, 13] (fun r g f wr' => ∃ (p rr' : Nat) (o' : Nat → Nat × Nat) (s' : Sl) (b' : Option Addr) (c' : Nat), r = .int .i64 (rr' : Int) ∧ g = .slice b' p c' ∧ f = .string (atk K p) ∧ p ≤ m ∧ rr' ≤ 50 + p ∧ Hid (Lw w wr' o' X s') ∧ Hid (Sq s' n K rr') ∧ Hid (OwnK wr' o' (5, 5) 1 (.slice b' p c') p (strc (K.take p))) ∧ Hid (OwnK wr' o' (7, qq) 1 (.slice b m c) m (strc K))) (fun _ g _ _ => m - lenV g)
        case atStart => exact ⟨0, rr, o, s, none, 0, rfl, rfl, rfl, by omega, by omega, LR, HS, OwnK.nil _ _ _ _, HO⟩
        case round =>
          clear LR HS HO
          obtain ⟨p, rr', o', s', b', c', rfl, rfl, rfl, hp, hrr, LR, HS, HG, HO⟩ := hrel
          obtain ⟨hf1, hf2⟩ := HS.out.behind (p := p) (by have := HM.out; omega)
          obtain ⟨fk, hfk⟩ : ∃ fk, atk K p = fk := ⟨_, rfl⟩
          have HFK := hid hfk
          rw [hfk] at hf1 hf2 ⊢
          obtain ⟨s3, ht, hq⟩ := HS.out.scan (by omega) (k := fk) hf2
          rw [hf1] at ht
          obtain ⟨L, hL⟩ : ∃ L, (K.drop p).take 16 = L := ⟨_, rfl⟩
          rw [hL] at ht
          obtain ⟨dd, hdd⟩ : ∃ dd, bs (txs L) = dd := ⟨_, rfl⟩
          rw [hdd] at ht
          have HT := hid ht
          have HQ := hid hq
          have HLL := hid hL
          have HDD := hid hdd
          have hdl : Hid (s'.done.length ≤ 90000) := hid (by have := HS.out.dl; omega)
          clear ht hq hL hdd hfk hf1 hf2 HS
          have p50 : ¬ ((50 : Int) < (p : Int)) := by omega
          go_wp2_with fail
          obtain ⟨V1, hV1⟩ : ∃ V, V = wr.alloc (.cells #[.int .i64 4, .int .i64 1, .int .i64 3, .int .i64 ((rr' : Int) + 1), .int .i64 0, .int .i64 0, .string fk, .int .i64 0, .string ⟨#[]⟩] 27) := ⟨_, rfl⟩
          have b1 : Below wr.heap.size wr V1 := by rw [hV1]; exact bel_alloc _ _
          rw [← hV1]
          have L1 := hid (LR.out.below b1)
          have G1 := hid (HG.out.below b1)
          have O1 := hid (HO.out.below b1)
          clear b1 hV1 LR HG HO
          have TK : Hid (Calls Tryz.prog 9 #[.pointer (some ⟨X, 0, none⟩), .agg #[.int .i64 4, .int .i64 1, .int .i64 3, .int .i64 ((rr' : Int) + 1), .int .i64 0, .int .i64 0, .string fk, .int .i64 0, .string ⟨#[]⟩]] V1 fun e w' => e = .returned (.tuple #[.agg #[.int .i64 6, .int .i64 1, .int .i64 3, .int .i64 ((rr' : Int) + 1), .int .i64 0, .int .i64 0, .string fk, .int .i64 0, .string dd], .bool true]) ∧ ∃ o2, Fr TP o' o2 V1 w' ∧ Lw w w' o2 X s3) := hid ((ptake_any X s' ⟨4, 1, 3, (rr' : Int) + 1, 0, 0, fk, 0, ⟨#[]⟩⟩ hdl.out V1 o' L1.out.I).mono (by
            rintro e w' ⟨rfl, o2, I, g⟩
            rw [HT.out] at I ⊢
            exact ⟨rfl, o2, g, L1.out.fr I g⟩))
          refine TK.out.mono ?_
          rintro e w4 ⟨rfl, o4, g4, l4⟩
          have L4 := hid l4
          have G4 := hid (G1.out.fr g4 nTP5')
          have O4 := hid (O1.out.fr g4 (nTP7' _))
          clear TK L1 G1 O1 HT g4 l4 hdl
          by_cases hpm : p = m
          · subst hpm
            obtain rfl : dd = ⟨#[]⟩ := by
              have := HLL.out
              rw [List.drop_eq_nil_of_le (by have := HM.out; omega), List.take_nil] at this
              rw [← HDD.out, ← this]; rfl
            go_upto_region 33 with fail
            obtain ⟨V2, hV2⟩ : ∃ V, V = w4.alloc (.cells #[.int .i64 6, .int .i64 1, .int .i64 3, .int .i64 ((rr' : Int) + 1), .int .i64 0, .int .i64 0, .string fk, .int .i64 0, .string ⟨#[]⟩] 27) := ⟨_, rfl⟩
            have b2 : Below w4.heap.size w4 V2 := by rw [hV2]; exact bel_alloc _ _
            rw [← hV2]
            have LF := hid (L4.out.below b2).fin
            have SM := hid (same_any K (by have := HM.out; omega) V2 (V1 := .slice b' p c') (V2 := .slice b p c) (by
              have := G4.out.below b2
              rw [List.take_of_length_le (by have := HM.out; omega)] at this
              rw [HM.out]; exact this) (by
              have := O4.out.below b2
              rw [HM.out]; exact this))
            clear b2 hV2 L4 G4 O4
            go_wp2_with (first
              | (go_at_call 25; refine SM.out.mono ?_; rintro e w' ⟨rfl, bs'⟩)
              | (go_at_call 3; refine (runs_any _).mono ?_; rintro e w' ⟨rfl, br⟩))
            go_ret
            exact ⟨rfl, (LF.out.trans (bs'.mono LF.out.size)).trans (br.mono (LF.out.trans (bs'.mono LF.out.size)).size)⟩
          · have hpl : p < m := by omega
            have hne : ¬ dd.toList = [] := str_ne_nil (by
              rw [← HDD.out, bs_size]
              have h0 : 0 < L.length := by rw [← HLL.out, List.length_take, List.length_drop]; have := HM.out; omega
              have := txs_at_lt h0
              omega)
            have hne2 : dd.toList.isEmpty = false := by
              cases hq : dd.toList.isEmpty with
              | false => rfl
              | true => exact absurd (List.isEmpty_iff.1 hq) hne
            clear hne
            go_upto_region 29 with fail
            obtain ⟨o5, ho5⟩ : ∃ o5, o5 = nwl o4 w4.heap.size := ⟨_, rfl⟩
            obtain ⟨B, hB⟩ : ∃ B, B = w4.heap.size := ⟨_, rfl⟩
            obtain ⟨w5, hw5⟩ : ∃ V, V = w4.alloc (.cells #[.int .i64 6, .int .i64 1, .int .i64 3, .int .i64 ((rr' : Int) + 1), .int .i64 0, .int .i64 0, .string fk, .int .i64 0, .string dd] 27) := ⟨_, rfl⟩
            have q := L4.out.box ⟨6, 1, 3, (rr' : Int) + 1, 0, 0, fk, 0, dd⟩
            rw [show (⟨6, 1, 3, (rr' : Int) + 1, 0, 0, fk, 0, dd⟩ : F).cs.toArray = #[.int .i64 6, .int .i64 1, .int .i64 3, .int .i64 ((rr' : Int) + 1), .int .i64 0, .int .i64 0, .string fk, .int .i64 0, .string dd] from rfl, ← hw5, ← ho5, ← hB] at q
            rw [← hw5, ← hB]
            have g5 : Fr (fun _ => False) o4 o5 w4 w5 := by rw [ho5]; exact nwl_fr _ o4 (by rw [hw5]; exact bel_alloc _ _)
            have L5 := hid q.1
            have K5 := hid q.2.1.k
            have G5 := hid (G4.out.fr g5 id)
            have O5 := hid (O4.out.fr g5 id)
            clear q g5 ho5 hw5 hB L4 G4 O4
            obtain ⟨cap, w6, hc, hcap, r6, b6⟩ := conv_bytes w5 dd
            have x8 := K5.out.q 8 _ rfl
            have HRD := hid (read_any2 (some ⟨w5.heap.size, 0, none⟩) dd.size cap (Wi.bt dd) (Wi.bt_lt dd) (by
              rw [← HDD.out, bs_size]
              have h1 := txs_len (l := L) (M := 40) (fun k hk => HQ.out.sz k (by
                rw [← HLL.out] at hk
                exact List.mem_of_mem_drop (List.mem_of_mem_take hk)) |>.2) (by omega)
              have h2 : L.length ≤ 16 := by rw [← HLL.out, List.length_take]; omega
              have h3 : L.length * (40 + 10) ≤ 16 * (40 + 10) := Nat.mul_le_mul_right _ h2
              omega) w6 r6)
            have L6 := hid (L5.out.below b6)
            have K6 := hid (K5.out.below b6)
            have G6 := hid (G5.out.below b6)
            have O6 := hid (O5.out.below b6)
            clear r6 b6 L5 K5 G5 O5
            go_wp2_with fail
            refine HRD.out.mono ?_
            rintro e w7 ⟨R, rfl, hR, i7, b7, h7⟩
            obtain ⟨o7, ho7⟩ : ∃ o7, o7 = nwt (4, 4) o5 w6.heap.size := ⟨_, rfl⟩
            have g7 : Fr (fun _ => False) o5 o7 w6 w7 := by rw [ho7]; exact nwt_fr _ _ o5 b7
            have R7 : Hid (Rdr w7 o7 R (Wi.bt dd) dd.size (txs (L.take 0)).length) := hid (by
              rw [ho7, List.take_zero]; exact Rdr.new o5 hR i7 h7)
            have L7 := hid (L6.out.grow g7 (fun _ _ => id) id)
            have K7 := hid (K6.out.fr g7 id)
            have G7 := hid (G6.out.fr g7 id)
            have O7 := hid (O6.out.fr g7 id)
            have hql : Hid (L.length = min 16 (m - p)) := hid (by rw [← HLL.out, List.length_take, List.length_drop, HM.out])
            obtain ⟨qn, hqn⟩ : ∃ qn, L.length = qn := ⟨_, rfl⟩
            have hq1 : 1 ≤ qn := by have := hql.out; omega
            have hq2 : p + qn ≤ m := by have := hql.out; omega
            have HQN := hid hqn
            clear HRD hc x8 L6 K6 G6 O6 g7 ho7 i7 b7 h7 hR hql hqn hcap
            go_wp2_with fail
            go_loopw [12, 13] (fun g f wr => ∃ (i : Nat) (o' : Nat → Nat × Nat) (b' : Option Addr) (c' : Nat), g = .slice b' (p + i) c' ∧ f = .string (atk K (p + i)) ∧ i ≤ qn ∧ Hid (Lw w wr o' X s3) ∧ Hid (KB wr o' B ⟨6, 1, 3, (rr' : Int) + 1, 0, 0, fk, 0, dd⟩) ∧ Hid (Rdr wr o' R (Wi.bt dd) dd.size (txs (L.take i)).length) ∧ Hid (OwnK wr o' (5, 5) 1 (.slice b' (p + i) c') (p + i) (strc (K.take (p + i)))) ∧ Hid (OwnK wr o' (7, qq) 1 (.slice b m c) m (strc K))) (fun g _ _ => p + qn - lenV g)
            case atStart => exact ⟨0, o7, b', c', rfl, by rw [Nat.add_zero, HFK.out], by omega, L7, K7, R7, G7, O7⟩
            case round =>
              clear L7 K7 R7 G7 O7
              obtain ⟨i, o8, b8, c8, rfl, rfl, hi, L8, K8, R8, G8, O8⟩ := hrel
              obtain ⟨at', hat⟩ : ∃ a, (txs (L.take i)).length = a := ⟨_, rfl⟩
              have HAT := hid hat
              rw [hat] at R8
              have DSZ : Hid (dd.size = (txs L).length) := hid (by rw [← HDD.out, bs_size])
              have x8 := K8.out.q 8 _ rfl
              have he1 := R8.out.i.pl
              have he2 : wr.cell? ⟨R, 2, none⟩ = some (.int .i64 0) := R8.out.i.er
              by_cases hiq : i < qn
              · obtain ⟨k, hk⟩ : ∃ k, L[i]? = some k := ⟨_, List.getElem?_eq_getElem (by rw [HQN.out]; exact hiq)⟩
                have HK : Hid (K[p + i]? = some k) := hid (by
                  rw [← HLL.out, List.getElem?_take] at hk
                  split at hk
                  · rw [List.getElem?_drop] at hk; exact hk
                  · cases hk)
                have hlt : (at' : Int) < (dd.size : Int) := by
                  have := txs_at_lt (L := L) (i := i) (by rw [HQN.out]; exact hiq)
                  have := DSZ.out; omega
                have HTX := txt_at hk (by
                  have := HQ.out.sz k (List.mem_of_getElem? HK.out)
                  omega)
                rw [HDD.out, hat] at HTX
                have hgl : p + i + 1 ≤ 1000000 := by omega
                replace HTX := hid HTX
                clear hk hat HAT
                go_wp2_with fail
                go_quiet (first
                  | (go_at_call 22; exact Calls.quiet_of_same (prdat_any R at' _ (by simpa using he1)))
                  | (go_at_call 23; exact Calls.quiet_of_same (prdwrong0 R _ (by simpa using he2))))
                go_wp2_with fail
                have b9 := below_drewN (Below.refl wr.heap.size wr) nq
                have TX := hid (Wi.rdtext_any R dd.size at' 0 (Wi.bt dd) 250 (wr.drewN nq) (R8.out.i.drewN nq))
                rw [HTX.out] at TX
                have L9 := hid (L8.out.below b9)
                have K9 := hid (K8.out.below b9)
                have R9 := hid (R8.out.fr (Fr.ofBelow (fun _ => False) o8 b9) id)
                have G9 := hid (G8.out.below b9)
                have O9 := hid (O8.out.below b9)
                clear b9 L8 K8 R8 G8 O8 x8 he1 he2 HTX hlt
                refine TX.out.mono ?_
                rintro e w10 ⟨rfl, i10, t10⟩
                have g10 := turn_fr t10 R9.out.lb
                have L10 := hid (L9.out.grow g10 nTP4 (by intro e; injection e with e _; omega))
                have K10 := hid (K9.out.fr g10 (by intro e; injection e with e _; omega))
                have R10 := hid (R9.out.turn t10 i10)
                have G10 := hid (G9.out.fr g10 (by intro e; injection e with e _; omega))
                have O10 := hid (O9.out.fr g10 (by intro e; injection e with e _; omega))
                clear TX i10 t10 g10 L9 K9 R9 G9 O9
                obtain ⟨v11, w11, o11, hrun, O11, F11⟩ := app_one 55 9 (.string ⟨#[]⟩) 16 und55 inf9 (by kernel_rfl) G10.out [.string k] rfl (fun u hu => by simp at hu; rw [hu]; rfl) (by omega) (by omega)
                have L11 := hid (L10.out.grow F11 nTP5 (by intro e; injection e with e _; omega))
                have K11 := hid (K10.out.fr F11 (by intro e; injection e with e _; omega))
                have R11 := hid (R10.out.fr F11 (by intro e; injection e with e _; omega))
                have O12 := hid (O10.out.fr F11 (by intro e; injection e with e _; omega))
                obtain ⟨b11, c11, rfl, _⟩ := O11.form
                have G11 : Hid (OwnK w11 o11 (5, 5) 1 (.slice b11 (p + i + 1) c11) (p + i + 1) (strc (K.take (p + i + 1)))) := hid (by
                  rw [List.take_add_one, HK.out, strc_append]; exact O11)
                have HFK2 : Hid (k = atk K (p + (i + 1))) := hid (by
                  unfold atk
                  rw [if_neg (by omega), show p + (i + 1) - 1 = p + i by omega, List.getD_eq_getElem?_getD, HK.out]; rfl)
                clear O11 F11 L10 K10 R10 G10 O10
                go_wp2_with (at_builtin; refine wpList_append_run rfl (.tmp 145) (.tmp 147) 55 55 rfl _ _ _ rfl rfl hrun ?_)
                exact ⟨⟨i + 1, o11, b11, c11, rfl, by rw [← HFK2.out], by omega, L11, K11, R11, G11, O12⟩, by simp [lenV]; omega⟩
              · have hlt : ¬ ((at' : Int) < (dd.size : Int)) := by
                  have : i = qn := by omega
                  subst this
                  have h := HAT.out
                  rw [List.take_of_length_le (by rw [HQN.out]; exact Nat.le_refl _)] at h
                  have := DSZ.out; omega
                have hlt2 : decide (at' < dd.size) = false := by rw [decide_eq_false_iff_not]; omega
                go_wp2_with fail
                go_big_quiet (first
                  | exact Calls.quiet_of_same (prdat_any R at' _ (by simpa using he1))
                  | exact Calls.quiet_of_same (prdwrong0 R _ (by simpa using he2)))
                go_wp2_with fail
                have b9 := below_drewN (Below.refl wr.heap.size wr) nq
                have : i = qn := by omega
                subst this
                exact ⟨⟨p + i, rr' + 1, o8, s3, b8, c8, by go_num, rfl, rfl, by omega, by omega, L8.out.below b9, HQ, G8.out.below b9, O8.out.below b9⟩, by simp [lenV]; omega⟩
end Go.Proofs.YtfinaichajbnkaaGreat
