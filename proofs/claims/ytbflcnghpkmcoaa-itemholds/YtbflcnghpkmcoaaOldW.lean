/-
  ITEMOLDEST walked: the law.
-/
import Derived.Test.YtbflcnghpkmcoaaOld
namespace Go.Proofs.Ytbflcnghpkmcoaa
open Go.RowKit

theorem str_ne {a b : ByteArray} (h : a ≠ b) : (a.toList == b.toList) = false := by rw [str_beq, decide_eq_false h]
theorem Fr.own9 {o o' : Nat → Nat × Nat} {w w' : World} {q : Nat} (h : Fr (· = (9, q)) o o' w w') : Fr T9 o o' w w' := h.mono (fun t e => .inr (by rw [e]))
theorem IsSt.nine {w w' : World} {o o' : Nat → Nat × Nat} {X : Nat} {z : Sp} {q : Nat} (I : IsSt w o X z) (f : Fr (· = (9, q)) o o' w w') : IsSt w' o' X z := I.fr f (fun t h e => nT9 q (by rw [← e]; exact h))
/-- What stands behind the inner loop. -/
structure Mid9 (w : World) (X : Nat) (z : Sp) (ks : List ByteArray) (a : Option Addr) (c : Nat) (ll : List ByteArray) (la : Option Addr) (ln lc : Nat) (wr : World) (o : Nat → Nat × Nat) : Prop where
  st : IsSt wr o X z
  wt : OwnK wr o (9, 0) 1 (.slice a ks.length c) ks.length (strc ks)
  lo : OwnK wr o (9, 1) 1 (.slice la ln lc) ln (strc ll)
  fr : Fr T9 o0 o w wr
/-- A list written out, with a mark. -/
theorem lit_ownT (w : World) (o : Nat → Nat × Nat) (t : Nat × Nat) (l : List ByteArray) (hl : l.length ≤ 1000000) : OwnK (w.alloc (.cells (strc l).toArray 9)) (lab o w.heap.size t) t 1 (.slice (some ⟨w.heap.size, 0, none⟩) l.length l.length) l.length (strc l) := by
  have := own_new (w := w) (o := o) (t := t) (k := 1) (n := l.length) (cap := l.length) (e := 9) (strc l) #[] (by rw [strc_length]; omega) (fun u hu => by obtain ⟨k, _, rfl⟩ := List.mem_map.1 hu; rfl) (Nat.le_refl _) (by unfold maxLen; omega) (by simp)
  rw [Array.append_empty] at this
  exact this
/-- append([]string{k}, l...). -/
theorem app_lit {W : World} {o : Nat → Nat × Nat} {la : Option Addr} {ln lc : Nat} {l : List ByteArray} (k : ByteArray) (h : OwnK W o (9, 1) 1 (.slice la ln lc) ln (strc l)) (hl : ln ≤ 1000) : ∃ g' c' w' o', (Builtin.append_ #[26, 26] 26 #[.slice (some ⟨W.heap.size, 0, none⟩) 1 1, .slice la ln lc]).run Try.prog (W.alloc (.cells #[.string k] 9)) = .ok (.slice (some ⟨g', 0, none⟩) (ln + 1) c') w' ∧ OwnK w' o' (9, 0) 1 (.slice (some ⟨g', 0, none⟩) (ln + 1) c') (ln + 1) (strc (k :: l)) ∧ Fr (fun t => t = (9, 0)) o o' W w' := by
  have f1 := fun T => Fr.new T o W (.cells #[.string k] 9) (9, 0)
  have h1 := (h.fr (f1 (fun _ => False)) (fun x => x)).src underS
  obtain ⟨v', w', o', hr, O, F⟩ := app_own 26 26 9 (.string ⟨#[]⟩) 16 underS infoS (by kernel_rfl) (lit_ownT W o (9, 0) [k] (by simp)) h1 (by simp; omega) (by simp; omega)
  obtain ⟨g', c', e, _⟩ := O.there (by simp; omega)
  subst e
  rw [show [k].length + ln = ln + 1 by simp; omega] at hr O
  exact ⟨g', c', w', o', hr, O, (f1 _).trans F⟩
set_option maxRecDepth 100000 in
set_option maxHeartbeats 2000000 in
theorem old_walk (room : Int) (ta : Option Addr) (tn tc : Nat) (N : Nat → Int) (w : World) (hT : IntsF w ta N tn) :
    Calls Try.prog 6 #[.int .i64 room, .slice ta tn tc] w fun e w' => e = .returned (.bool true) ∧ Below w.heap.size w w' := by
  have HT : Hid (IntsF w ta N tn) := hT
  clear hT
  go_enter Try.func6, Try.ntmps6
  go_wp2_with fail
  refine (within_any room 1 8 (by omega) (by omega) (by omega) _).mono ?_
  rintro e w1 ⟨rfl, rfl⟩
  obtain ⟨b1, b2⟩ := wi_bd room 1 8 (by omega)
  obtain ⟨n, hn⟩ : ∃ n : Nat, wi room 1 8 = (n : Int) := ⟨(wi room 1 8).toNat, by omega⟩
  rw [hn] at b1 b2 ⊢
  clear hn
  have hn1 : 1 ≤ n := by omega
  have hn8 : n ≤ 8 := by omega
  go_wp2_with fail
  refine (snew_yes n 64 _ 64 rfl rfl hn1 (by omega) (by omega) (by omega) _ o0 (fun b _ => o0_ok b)).mono ?_
  rintro e w1 ⟨X, rfl, o1, m, hm, I1, F1⟩
  have hm1 := one_class hm
  subst hm1
  have HI1 : Hid (IsSt w1 o1 X ⟨St.new n 64 1, []⟩) := I1
  have HF1 : Hid (Fr T9 o0 o1 w w1) := F1.mono (fun _ h => h.elim)
  have HH1 : Hid (Fresh n [] ⟨St.new n 64 1, []⟩) := ⟨One.new I1.ok.ok, (fun _ h => by cases h), rfl⟩
  clear I1 F1 hm
  go_wp2_with fail
  go_loopw [8, 9] (fun V y wr => ∃ (i : Nat) (z : Sp) (ks : List ByteArray) (o2 : Nat → Nat × Nat) (a : Option Addr) (c : Nat), i ≤ 60 ∧ y = .int .i64 (i : Int) ∧ V = .slice a ks.length c ∧ ks.length ≤ 8 ∧ Hid (Fresh n ks z) ∧ Hid (IsSt wr o2 X z) ∧ Hid (OwnK wr o2 (9, 0) 1 (.slice a ks.length c) ks.length (strc ks)) ∧ Hid (Fr T9 o0 o2 w wr)) (fun _ y _ => 60 - (intOf y).toNat)
  case atStart => exact ⟨0, _, [], o1, none, 0, by omega, rfl, rfl, by simp, HH1, HI1, OwnK.nil _ _ _ _, HF1⟩
  case round =>
    clear HI1 HF1 HH1
    obtain ⟨i, z, ks, o2, a, c, hi60, rfl, rfl, hks8, HH, HI, HO, HF⟩ := hrel
    by_cases hlt : i < tn ∧ i < 60
    · obtain ⟨hl1, hl2⟩ := hlt
      have k1 : (i : Int) < (tn : Int) := by omega
      have k2 : (i : Int) < 60 := by omega
      obtain ⟨p, off, hta, hrd⟩ : ∃ p off, ta = some ⟨p, off, none⟩ ∧ ∀ i, i < tn → wr.cell? ⟨p, off + i, none⟩ = some (.int .i64 (N i)) := by
        rcases HT.out.up HF.out.low with h | h
        · omega
        · exact h
      subst hta
      have d0 := hrd i hl1
      clear hrd
      go_wp2_with fail
      refine (within_any (N i) 0 20 (by omega) (by omega) (by omega) _).mono ?_
      rintro e w2 ⟨rfl, rfl⟩
      obtain ⟨b3, b4⟩ := wi_bd (N i) 0 20 (by omega)
      obtain ⟨q, hq⟩ : ∃ q : Nat, wi (N i) 0 20 = (q : Int) := ⟨(wi (N i) 0 20).toNat, by omega⟩
      rw [hq] at b3 b4 ⊢
      clear hq d0
      have hq20 : q ≤ 20 := by omega
      have hcv := conv_ky wr q
      have B3 : Below wr.heap.size wr (wr.alloc (.cells #[.int .u8 (97 + (q : Int))] 5)) := (Below.refl _ _).alloc (Nat.le_refl _) _
      have HI3 : Hid (IsSt (wr.alloc (.cells #[.int .u8 (97 + (q : Int))] 5)) o2 X z) := HI.out.below B3
      have HF3 : Hid (Fr T9 o0 o2 w (wr.alloc (.cells #[.int .u8 (97 + (q : Int))] 5))) := HF.out.trans (Fr.ofBelow _ o2 B3)
      have HO3 : Hid (OwnK (wr.alloc (.cells #[.int .u8 (97 + (q : Int))] 5)) o2 (9, 0) 1 (.slice a ks.length c) ks.length (strc ks)) := HO.out.below B3
      clear B3 HI HF HO
      go_wp2_with fail
      obtain ⟨k, hk⟩ : ∃ k, k = ky q := ⟨_, rfl⟩
      have hkz : k.size = 1 := by rw [hk]; exact ky_size q
      have hkx : Hid ((k ++ dX).size ≤ 64) := by rw [hk]; exact kyx q
      rw [← hk]
      clear hk hcv
      refine (sget_any X z k (by omega) _ o2 HI3.out).mono ?_
      rintro e w4 ⟨rfl, I4, F4⟩
      obtain ⟨td, htd⟩ : ∃ td, td = tel (fnd z.l k) := ⟨_, rfl⟩
      obtain ⟨b, hb⟩ : ∃ b, b = (fnd z.l k).isSome := ⟨_, rfl⟩
      have HBt : Hid (b = inK ks k) := by show _ = _; rw [hb]; exact HH.out.there k
      rw [← htd, ← hb]
      have HM4 : Hid (Mid9 w X (z.touch k) ks a c [] none 0 0 w4 o2) := ⟨I4, HO3.out.fr F4 (nT9 0), OwnK.nil _ _ _ _, HF3.out.trans (F4.mono (fun _ h => .inl h))⟩
      clear I4 F4 HI3 HF3 HO3 htd hb
      go_wp2_with fail
      obtain ⟨W0, hW0⟩ : ∃ W0, W0 = wr := ⟨_, rfl⟩
      clear hW0
      go_loopw [13, 14, 15] (fun V B y wx => ∃ (j : Nat) (bb : Bool) (la : Option Addr) (ln lc : Nat) (o5 : Nat → Nat × Nat), j ≤ ks.length ∧ ln ≤ j ∧ y = .int .i64 (j : Int) ∧ B = .bool bb ∧ V = .slice la ln lc ∧ Hid (bb = inK (ks.take j) k) ∧ Hid (ln = (wo (ks.take j) k).length) ∧ Hid (Mid9 w X (z.touch k) ks a c (wo (ks.take j) k) la ln lc wx o5)) (fun _ _ y _ => ks.length - (intOf y).toNat)
      case atStart => exact ⟨0, false, none, 0, 0, o2, by omega, by omega, rfl, rfl, rfl, rfl, rfl, HM4⟩
      case round =>
        clear HM4
        obtain ⟨j, bb, la, ln, lc, o5, hj, hlnj, rfl, rfl, rfl, HBB, HLN, HM⟩ := hrel
        by_cases hjl : j < ks.length
        · obtain ⟨x, hx⟩ : ∃ x, ks[j]? = some x := ⟨_, List.getElem?_eq_getElem hjl⟩
          obtain ⟨ga, ea, da⟩ := HM.out.wt.read hx
          subst ea
          have k3 : (j : Int) < (ks.length : Int) := by omega
          have htk : ks.take (j + 1) = ks.take j ++ [x] := wo_take hx
          by_cases hxk : x = k
          · subst hxk
            have H1 : Hid (inK (ks.take (j + 1)) x = true ∧ wo (ks.take (j + 1)) x = wo (ks.take j) x) := by
              refine ⟨inK_iff.2 (by rw [htk]; simp), ?_⟩
              rw [htk]; unfold wo; rw [List.filter_append]; simp
            clear htk hx
            go_wp2_with fail
            refine ⟨⟨j + 1, true, la, ln, lc, o5, by omega, by omega, by go_num, rfl, rfl, H1.out.1.symm, by rw [H1.out.2]; exact HLN, by rw [H1.out.2]; exact HM⟩, by simp [intOf]; omega⟩
          · have hne := str_ne hxk
            have H1 : Hid (inK (ks.take (j + 1)) k = bb ∧ wo (ks.take (j + 1)) k = wo (ks.take j) k ++ [x]) := by
              refine ⟨?_, ?_⟩
              · rw [HBB.out, htk]; unfold inK; rw [List.any_append]; simp [hxk]
              · rw [htk]; unfold wo; rw [List.filter_append]; simp [hxk]
            obtain ⟨v6, w6, o6, hrun, O6, F6⟩ := app_one 26 9 (.string ⟨#[]⟩) 16 underS infoS (by kernel_rfl) HM.out.lo [.string x] rfl (fun u hu => by simp at hu; rw [hu]; rfl) (by omega) (by omega)
            obtain ⟨a6, c6, rfl, _⟩ := O6.form
            have HM6 : Hid (Mid9 w X (z.touch k) ks (some ⟨ga, 0, none⟩) c (wo (ks.take (j + 1)) k) a6 (ln + 1) c6 w6 o6) := ⟨HM.out.st.nine F6, HM.out.wt.fr F6 (by decide), by rw [H1.out.2, strc_append]; exact O6, HM.out.fr.trans F6.own9⟩
            clear O6 F6 htk hx HM
            go_wp2_with (at_builtin; refine wpList_append_run rfl (.tmp 68) (.tmp 73) 26 26 rfl _ _ _ rfl rfl hrun ?_)
            refine ⟨⟨j + 1, bb, a6, ln + 1, c6, o6, by omega, by omega, by go_num, rfl, rfl, H1.out.1.symm, ?_, HM6⟩, by simp [intOf]; omega⟩
            show _ = _
            rw [H1.out.2, List.length_append, ← HLN.out]; rfl
        · have hjk : j = ks.length := by omega
          have HLL : Hid (bb = b ∧ ln = (wo ks k).length ∧ Mid9 w X (z.touch k) ks a c (wo ks k) la ln lc wr o5) := by
            have h1 := HBB.out
            have h2 := HLN.out
            have h3 := HM.out
            rw [hjk, List.take_length] at h1 h2 h3
            exact ⟨by rw [h1, HBt.out], h2, h3⟩
          have hbb : bb = b := HLL.out.1
          subst hbb
          clear HBB HLN HM
          have hln8 : ln ≤ 1000 := by omega
          have hlnw : Hid (ln = (wo ks k).length) := HLL.out.2.1
          cases hbv : bb with
          | true =>
            have hfr := HH.out.old (inK_iff.1 (by rw [← HBt.out]; exact hbv))
            obtain ⟨z', hz'⟩ : ∃ z', z' = z.touch k := ⟨_, rfl⟩
            have HFR : Hid (Fresh n (nextK n ks k) z') := by rw [hz']; exact hfr.1
            have HS : Hid (IsSt wr o5 X z') := by rw [hz']; exact HLL.out.2.2.st
            have HL : Hid (OwnK wr o5 (9, 1) 1 (.slice la ln lc) ln (strc (wo ks k))) := HLL.out.2.2.lo
            have HFW : Hid (Fr T9 o0 o5 w wr) := HLL.out.2.2.fr
            clear hz' hfr HLL
            obtain ⟨ga, ca, w8, o8, hrun, O8, F8⟩ := app_lit k HL.out hln8
            have HS8 : Hid (IsSt w8 o8 X z' ∧ Fr T9 o0 o8 w w8) := ⟨HS.out.nine F8, HFW.out.trans F8.own9⟩
            have HO8 : Hid (OwnK w8 o8 (9, 0) 1 (.slice (some ⟨ga, 0, none⟩) (ln + 1) ca) (ln + 1) (strc (k :: wo ks k))) := O8
            have hca : ln + 1 ≤ ca := by obtain ⟨_, _, e, h⟩ := O8.form; injection e with _ _ e; subst e; exact h
            clear O8 F8 HS HL HFW
            by_cases hcut : n < ln + 1
            · have k5 : (n : Int) < ((ln : Int) + 1) := by omega
              have HO9 : Hid (OwnK w8 o8 (9, 0) 1 (.slice (some ⟨ga, 0, none⟩) n ca) n (strc (nextK n ks k)) ∧ n = (nextK n ks k).length) := by
                have h1 := HO8.out.cut n (by omega)
                have e1 : (strc (k :: wo ks k)).take (n * 1) = strc (nextK n ks k) := by unfold strc nextK; rw [Nat.mul_one, List.map_take]
                rw [e1] at h1
                exact ⟨h1, by have h2 := h1.1; rw [strc_length] at h2; omega⟩
              clear HO8
              go_wp2_with (at_builtin; refine wpList_append_run rfl (.tmp 89) (.tmp 90) 26 26 rfl _ _ _ rfl rfl hrun ?_)
              refine (keys_any X z' _ o8 HS8.out.1).mono ?_
              rintro e w10 ⟨V10, o10, rfl, O10, I10, F10⟩
              rw [show z'.keys = nextK n ks k from HFR.out.ks] at O10
              have O9 := HO9.out.1.fr F10 (fun x => x)
              have HE : Hid (IsSt w10 o10 X z' ∧ OwnK w10 o10 (9, 0) 1 (.slice (some ⟨ga, 0, none⟩) n ca) n (strc (nextK n ks k)) ∧ Fr T9 o0 o10 w w10) := ⟨I10, O9, HS8.out.2.trans (F10.mono (fun _ h => h.elim))⟩
              have hlk := nextK_len n ks k
              have HSM := same_any (nextK n ks k) (by omega) w10 O10 (V2 := .slice (some ⟨ga, 0, none⟩) n ca) (by rw [← HO9.out.2]; exact O9)
              clear O10 I10 F10 O9 HS8 hrun
              go_wp2_with fail
              refine HSM.mono ?_
              rintro e w11 ⟨rfl, B11⟩
              have HE11 : Hid (IsSt w11 o10 X z' ∧ OwnK w11 o10 (9, 0) 1 (.slice (some ⟨ga, 0, none⟩) n ca) n (strc (nextK n ks k)) ∧ Fr T9 o0 o10 w w11) := ⟨HE.out.1.below B11, HE.out.2.1.below B11, HE.out.2.2.trans (Fr.ofBelow _ o10 B11)⟩
              clear HSM B11 HE
              go_wp2_with fail
              exact ⟨⟨i + 1, z', nextK n ks k, o10, some ⟨ga, 0, none⟩, ca, by omega, by go_num, by rw [← HO9.out.2], by omega, HFR, HE11.out.1, by rw [← HO9.out.2]; exact HE11.out.2.1, HE11.out.2.2⟩, by simp [intOf]; omega⟩
            · have k5 : decide ((n : Int) < ((ln : Int) + 1)) = false := by simp; omega
              have hnx : nextK n ks k = k :: wo ks k := by unfold nextK; rw [List.take_of_length_le (by rw [List.length_cons, ← hlnw.out]; omega)]
              have hnl : ln + 1 = (nextK n ks k).length := by rw [hnx, List.length_cons, ← hlnw.out]
              have HO9 : Hid (OwnK w8 o8 (9, 0) 1 (.slice (some ⟨ga, 0, none⟩) (ln + 1) ca) (ln + 1) (strc (nextK n ks k)) ∧ ln + 1 = (nextK n ks k).length) := ⟨by rw [hnx]; exact HO8.out, hnl⟩
              clear HO8 hnx hnl
              go_wp2_with (at_builtin; refine wpList_append_run rfl (.tmp 89) (.tmp 90) 26 26 rfl _ _ _ rfl rfl hrun ?_)
              refine (keys_any X z' _ o8 HS8.out.1).mono ?_
              rintro e w10 ⟨V10, o10, rfl, O10, I10, F10⟩
              rw [show z'.keys = nextK n ks k from HFR.out.ks] at O10
              have O9 := HO9.out.1.fr F10 (fun x => x)
              have HE : Hid (IsSt w10 o10 X z' ∧ OwnK w10 o10 (9, 0) 1 (.slice (some ⟨ga, 0, none⟩) (ln + 1) ca) (ln + 1) (strc (nextK n ks k)) ∧ Fr T9 o0 o10 w w10) := ⟨I10, O9, HS8.out.2.trans (F10.mono (fun _ h => h.elim))⟩
              have hlk := nextK_len n ks k
              have HSM := same_any (nextK n ks k) (by omega) w10 O10 (V2 := .slice (some ⟨ga, 0, none⟩) (ln + 1) ca) (by rw [← HO9.out.2]; exact O9)
              clear O10 I10 F10 O9 HS8 hrun
              go_wp2_with fail
              refine HSM.mono ?_
              rintro e w11 ⟨rfl, B11⟩
              have HE11 : Hid (IsSt w11 o10 X z' ∧ OwnK w11 o10 (9, 0) 1 (.slice (some ⟨ga, 0, none⟩) (ln + 1) ca) (ln + 1) (strc (nextK n ks k)) ∧ Fr T9 o0 o10 w w11) := ⟨HE.out.1.below B11, HE.out.2.1.below B11, HE.out.2.2.trans (Fr.ofBelow _ o10 B11)⟩
              clear HSM B11 HE
              go_wp2_with fail
              exact ⟨⟨i + 1, z', nextK n ks k, o10, some ⟨ga, 0, none⟩, ca, by omega, by go_num, by rw [← HO9.out.2], by omega, HFR, HE11.out.1, by rw [← HO9.out.2]; exact HE11.out.2.1, HE11.out.2.2⟩, by simp [intOf]; omega⟩
          | false =>
            have hnk : k ∉ ks := fun hk => by
              have := inK_iff.2 hk
              rw [← HBt.out, hbv] at this; cases this
            obtain ⟨htz, wl, z', hput, hfr⟩ := HH.out.new hn1 hnk hkx.out
            have HP : Hid (z.touch k = z ∧ z.put k dX false = (wl, 0, z')) := ⟨htz, hput⟩
            have HFR : Hid (Fresh n (nextK n ks k) z') := hfr
            clear htz hput hfr
            go_wp2_with fail
            refine (sput_any X (z.touch k) k dX false (by omega) (by decide) _ o5 HLL.out.2.2.st).mono ?_
            rintro e w7 ⟨V7, o7, rfl, _, I7, F7⟩
            rw [HP.out.1, HP.out.2] at I7 ⊢
            have HS : Hid (IsSt w7 o7 X z') := I7
            have HL : Hid (OwnK w7 o7 (9, 1) 1 (.slice la ln lc) ln (strc (wo ks k))) := HLL.out.2.2.lo.fr F7 (nT9 1)
            have HFW : Hid (Fr T9 o0 o7 w w7) := HLL.out.2.2.fr.trans (F7.mono (fun _ h => .inl h))
            clear I7 F7 HLL
            obtain ⟨ga, ca, w8, o8, hrun, O8, F8⟩ := app_lit k HL.out hln8
            have HS8 : Hid (IsSt w8 o8 X z' ∧ Fr T9 o0 o8 w w8) := ⟨HS.out.nine F8, HFW.out.trans F8.own9⟩
            have HO8 : Hid (OwnK w8 o8 (9, 0) 1 (.slice (some ⟨ga, 0, none⟩) (ln + 1) ca) (ln + 1) (strc (k :: wo ks k))) := O8
            have hca : ln + 1 ≤ ca := by obtain ⟨_, _, e, h⟩ := O8.form; injection e with _ _ e; subst e; exact h
            clear O8 F8 HS HL HFW
            by_cases hcut : n < ln + 1
            · have k5 : (n : Int) < ((ln : Int) + 1) := by omega
              have HO9 : Hid (OwnK w8 o8 (9, 0) 1 (.slice (some ⟨ga, 0, none⟩) n ca) n (strc (nextK n ks k)) ∧ n = (nextK n ks k).length) := by
                have h1 := HO8.out.cut n (by omega)
                have e1 : (strc (k :: wo ks k)).take (n * 1) = strc (nextK n ks k) := by unfold strc nextK; rw [Nat.mul_one, List.map_take]
                rw [e1] at h1
                exact ⟨h1, by have h2 := h1.1; rw [strc_length] at h2; omega⟩
              clear HO8
              go_wp2_with (at_builtin; refine wpList_append_run rfl (.tmp 89) (.tmp 90) 26 26 rfl _ _ _ rfl rfl hrun ?_)
              refine (keys_any X z' _ o8 HS8.out.1).mono ?_
              rintro e w10 ⟨V10, o10, rfl, O10, I10, F10⟩
              rw [show z'.keys = nextK n ks k from HFR.out.ks] at O10
              have O9 := HO9.out.1.fr F10 (fun x => x)
              have HE : Hid (IsSt w10 o10 X z' ∧ OwnK w10 o10 (9, 0) 1 (.slice (some ⟨ga, 0, none⟩) n ca) n (strc (nextK n ks k)) ∧ Fr T9 o0 o10 w w10) := ⟨I10, O9, HS8.out.2.trans (F10.mono (fun _ h => h.elim))⟩
              have hlk := nextK_len n ks k
              have HSM := same_any (nextK n ks k) (by omega) w10 O10 (V2 := .slice (some ⟨ga, 0, none⟩) n ca) (by rw [← HO9.out.2]; exact O9)
              clear O10 I10 F10 O9 HS8 hrun
              go_wp2_with fail
              refine HSM.mono ?_
              rintro e w11 ⟨rfl, B11⟩
              have HE11 : Hid (IsSt w11 o10 X z' ∧ OwnK w11 o10 (9, 0) 1 (.slice (some ⟨ga, 0, none⟩) n ca) n (strc (nextK n ks k)) ∧ Fr T9 o0 o10 w w11) := ⟨HE.out.1.below B11, HE.out.2.1.below B11, HE.out.2.2.trans (Fr.ofBelow _ o10 B11)⟩
              clear HSM B11 HE
              go_wp2_with fail
              exact ⟨⟨i + 1, z', nextK n ks k, o10, some ⟨ga, 0, none⟩, ca, by omega, by go_num, by rw [← HO9.out.2], by omega, HFR, HE11.out.1, by rw [← HO9.out.2]; exact HE11.out.2.1, HE11.out.2.2⟩, by simp [intOf]; omega⟩
            · have k5 : decide ((n : Int) < ((ln : Int) + 1)) = false := by simp; omega
              have hnx : nextK n ks k = k :: wo ks k := by unfold nextK; rw [List.take_of_length_le (by rw [List.length_cons, ← hlnw.out]; omega)]
              have hnl : ln + 1 = (nextK n ks k).length := by rw [hnx, List.length_cons, ← hlnw.out]
              have HO9 : Hid (OwnK w8 o8 (9, 0) 1 (.slice (some ⟨ga, 0, none⟩) (ln + 1) ca) (ln + 1) (strc (nextK n ks k)) ∧ ln + 1 = (nextK n ks k).length) := ⟨by rw [hnx]; exact HO8.out, hnl⟩
              clear HO8 hnx hnl
              go_wp2_with (at_builtin; refine wpList_append_run rfl (.tmp 89) (.tmp 90) 26 26 rfl _ _ _ rfl rfl hrun ?_)
              refine (keys_any X z' _ o8 HS8.out.1).mono ?_
              rintro e w10 ⟨V10, o10, rfl, O10, I10, F10⟩
              rw [show z'.keys = nextK n ks k from HFR.out.ks] at O10
              have O9 := HO9.out.1.fr F10 (fun x => x)
              have HE : Hid (IsSt w10 o10 X z' ∧ OwnK w10 o10 (9, 0) 1 (.slice (some ⟨ga, 0, none⟩) (ln + 1) ca) (ln + 1) (strc (nextK n ks k)) ∧ Fr T9 o0 o10 w w10) := ⟨I10, O9, HS8.out.2.trans (F10.mono (fun _ h => h.elim))⟩
              have hlk := nextK_len n ks k
              have HSM := same_any (nextK n ks k) (by omega) w10 O10 (V2 := .slice (some ⟨ga, 0, none⟩) (ln + 1) ca) (by rw [← HO9.out.2]; exact O9)
              clear O10 I10 F10 O9 HS8 hrun
              go_wp2_with fail
              refine HSM.mono ?_
              rintro e w11 ⟨rfl, B11⟩
              have HE11 : Hid (IsSt w11 o10 X z' ∧ OwnK w11 o10 (9, 0) 1 (.slice (some ⟨ga, 0, none⟩) (ln + 1) ca) (ln + 1) (strc (nextK n ks k)) ∧ Fr T9 o0 o10 w w11) := ⟨HE.out.1.below B11, HE.out.2.1.below B11, HE.out.2.2.trans (Fr.ofBelow _ o10 B11)⟩
              clear HSM B11 HE
              go_wp2_with fail
              exact ⟨⟨i + 1, z', nextK n ks k, o10, some ⟨ga, 0, none⟩, ca, by omega, by go_num, by rw [← HO9.out.2], by omega, HFR, HE11.out.1, by rw [← HO9.out.2]; exact HE11.out.2.1, HE11.out.2.2⟩, by simp [intOf]; omega⟩
    · have hcond : ¬ ((i : Int) < (tn : Int)) ∨ ((i : Int) < (tn : Int) ∧ ¬ ((i : Int) < 60)) := by omega
      have HB : Hid (Below w.heap.size w wr) := HF.out.low
      clear hlt HF HI HO HH
      rcases hcond with hc | ⟨hc1, hc2⟩
      · have k1 : decide ((i : Int) < (tn : Int)) = false := by simp; omega
        go_wp2_with fail
        refine (runs_any _).mono ?_
        rintro e w3 ⟨rfl, B3⟩
        have HB3 : Hid (Below w.heap.size w w3) := HB.out.trans (B3.mono HB.out.size)
        clear B3
        go_wp2_with fail
        go_ret
        exact ⟨rfl, HB3.out⟩
      · have k1 : decide ((i : Int) < 60) = false := by simp; omega
        go_wp2_with fail
        refine (runs_any _).mono ?_
        rintro e w3 ⟨rfl, B3⟩
        have HB3 : Hid (Below w.heap.size w w3) := HB.out.trans (B3.mono HB.out.size)
        clear B3
        go_wp2_with fail
        go_ret
        exact ⟨rfl, HB3.out⟩
end Go.Proofs.Ytbflcnghpkmcoaa
