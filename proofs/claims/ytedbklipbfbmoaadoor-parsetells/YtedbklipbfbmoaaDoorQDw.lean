/-
  data of the reference, walked.
-/
import Derived.Test.YtedbklipbfbmoaaDoorQDa
namespace Go.Proofs.YtedbklipbfbmoaaDoor
open Go.RowKit

set_option maxRecDepth 100000 in
set_option maxHeartbeats 2000000 in
theorem dataR_any {o : Nat → Nat × Nat} {x P : Nat} {q : Rq} {RS : B} {ka : Option Addr} {kn kc : Nat} (hx : x < 8) (hRS : RS.length ≤ 1000000) (nn : Nat) (hnn : q.bytes = (nn : Int)) (hn1 : nn ≤ 1048576) (hb : Bs (pd [] q)) (w : World) (h : IsRf w o x P (pd [] q) RS ka kn kc) :
    Calls Tryd.prog 42 #[.pointer (some ⟨P, 0, none⟩)] w fun e w' => SOut w o x P (pd [] q) RS e w' := by
  obtain ⟨R, hR⟩ : ∃ R, R = q.cs (.slice ka kn kc) := ⟨_, rfl⟩
  obtain ⟨W1, hW1⟩ : ∃ W1, W1 = w.alloc (.cells #[.int .i64 0, .slice none 0 0, .int .i64 0, .int .i64 0, .int .i64 0, .int .i64 0, .int .u64 0, .bool false, .string ⟨#[]⟩, .int .i64 0, .slice none 0 0, .bool false, .int .u64 0, .string ⟨#[]⟩, .int .i64 0, .int .i64 0, .int .i64 0, .int .i64 0] 44) := ⟨_, rfl⟩
  obtain ⟨W3, hW3⟩ : ∃ W3, W3 = (W1.alloc (.cells #[.int .i64 0, .slice none 0 0, .int .i64 0, .int .i64 0, .int .i64 0, .int .i64 0, .int .u64 0, .bool false, .string ⟨#[]⟩] 30)).setCells (w.heap.size + 1) 0 R := ⟨_, rfl⟩
  obtain ⟨g1, th1, o3, D3⟩ := DatR.start h hR hW1 hW3
  have HRR := Lib.hid hR
  have HRL : Hid (R.length = 9) := Lib.hid (by rw [hR]; rfl)
  have HRO : Hid (∀ u ∈ R, u.oneCell' = true) := Lib.hid (by rw [hR]; exact cs_one _ _ _ _)
  have HTH : Hid ((W1.alloc (.cells #[.int .i64 0, .slice none 0 0, .int .i64 0, .int .i64 0, .int .i64 0, .int .i64 0, .int .u64 0, .bool false, .string ⟨#[]⟩] 30)).there (w.heap.size + 1) 0 R.length) := Lib.hid (by rw [HRL.out]; exact th1)
  have HG1 := Lib.hid g1
  rw [hW1] at HTH HG1 hW3
  have HW3 := Lib.hid hW3
  have HD3 := Lib.hid D3
  obtain ⟨str, hstr⟩ : ∃ str, str = S RS := ⟨_, rfl⟩
  have hsz : str.size = RS.length := by rw [hstr, S_size]
  have hLs : L str = RS := by rw [hstr]; rfl
  have c0 : W3.cell? ⟨P, 0, none⟩ = some (.string str) := by rw [hstr]; exact D3.is.at_ 0 _ rfl
  have b4 : ∀ W : World, W.rangeAt (w.heap.size + 1) 0 R → W.cell? ⟨w.heap.size + 1, 4, none⟩ = some (.int .i64 (nn : Int)) := fun W hr => by
    have := hr 4 (.int .i64 (nn : Int)) (by rw [hR, ← hnn]; rfl)
    rwa [Nat.zero_add] at this
  have c4 := b4 _ D3.rg
  have HB4 := Lib.hid b4
  have HNN := Lib.hid hnn
  have HLE : Hid (q.bytes.toNat = nn) := Lib.hid (by rw [hnn]; rfl)
  have HSTR := Lib.hid hLs
  have HST2 := Lib.hid hstr
  obtain ⟨m, hm⟩ : ∃ m, str.size = m := ⟨_, rfl⟩
  have hmR : m = RS.length := by rw [← hm]; exact hsz
  have HM := Lib.hid hm
  clear hm
  have mb : m ≤ 1000000 := by omega
  have HMR := Lib.hid hmR
  have HBS := Lib.hid hb
  obtain ⟨z2, hz2⟩ : ∃ z2 : Int, z2 = (nn : Int) + 2 := ⟨_, rfl⟩
  have w2 : IntKind.i64.wrap ((nn : Int) + 2) = z2 := by rw [hz2, IntKind.wrap_i64]; omega
  have HZ2 := Lib.hid hz2
  clear hR hW3 hW1 g1 th1 D3 b4 hnn h hb hLs hsz hmR hz2 hstr hRS
  go_enter Tryd.func42, Tryd.ntmps42
  go_wp2_with (first | ((with_reducible show wpList _ _ _ (Oper.mk (some _) (Op.load 30 (.tmp 8)) _ _ _ _ :: _) _ _); refine wpList_load_mid (by rfl) 30 (.tmp 8) (by rfl) P 1 (by rfl) R _ HG1.out Tryd.underlying30 (by rfl) (by rw [HRL.out]; kernel_rfl) ?_) | ((with_reducible show wpList _ _ _ (Oper.mk none (Op.store 30 (.tmp 4) _) _ _ _ _ :: _) _ _); refine wpList_store_mid (by rfl) 30 (.tmp 4) (.tmp 9) (by rfl) (w.heap.size + 1) 0 R.toArray (by rfl) (by rfl) HTH.out (by rw [List.size_toArray, HRL.out]; kernel_rfl) (all_oneCell_toArray HRO.out) ?_; rw [show R.toArray.toList = R from rfl, ← HW3.out]))
  go_simp
  clear HG1 HTH HW3
  by_cases h1 : m ≤ nn
  · have t1 : decide ((str.size : Int) < z2) = true := by have := HZ2.out; have := HM.out; simp; omega
    have t2 : decide ((nn : Int) < (str.size : Int)) = false := by have := HM.out; simp; omega
    have t3 : decide (nn < str.size) = false := by have := HM.out; simp; omega
    go_big_quiet (fail)
    obtain ⟨W4, hW4⟩ : ∃ W4, W4 = W3.drewN nq := ⟨_, rfl⟩
    have D4 := HD3.out.below hx (W' := W4) (by rw [hW4]; exact below_drewN (Below.refl _ _) nq)
    rw [← hW4]
    have O6 := OutR.zero D4.is
    obtain ⟨E, hE⟩ : ∃ E, E = (Ev.none.cs (.slice none 0 0)) := ⟨_, rfl⟩
    have HE : Hid (E = [.int .i64 0, .slice none 0 0, .int .i64 0, .int .i64 0, .int .i64 0, .int .i64 0, .int .u64 0, .bool false, .string ⟨#[]⟩, .int .i64 0, .slice none 0 0, .bool false, .int .u64 0, .string ⟨#[]⟩, .int .i64 0, .int .i64 0, .int .i64 0, .int .i64 0]) := Lib.hid (by rw [hE]; rfl)
    rw [← hE] at O6
    obtain ⟨hl, ho, ht, hr, hq⟩ := chain_r hx D4.fr D4.res (Nat.le_refl _) O6
    have HL := Lib.hid hl
    have H1 := Lib.hid ho
    have HT := Lib.hid ht
    have HR := Lib.hid hr
    have HO := Lib.hid hq
    clear hl ho ht hr hq
    clear hE O6 D4 hW4
    go_wp2_with ((with_reducible show wpList _ _ _ (Oper.mk none (Op.store 44 (.tmp 2) _) _ _ _ _ :: _) _ _); refine wpList_store_mid (by rfl) 44 (.tmp 2) (.tmp 40) (by rfl) w.heap.size 0 E.toArray (by rfl) (by rw [HE.out]; rfl) HT.out (by rw [List.size_toArray, HL.out]; kernel_rfl) (all_oneCell_toArray H1.out) ?_; rw [show E.toArray.toList = E from rfl])
    exact bodyPost_ret (v := .tuple #[.agg E.toArray, .bool false]) (res2r Tryd.results42 (by rfl) (by rfl) HR.out HL.out) rfl ⟨E, pd [] q, RS, Ev.none, false, rfl, HO.out, ⟨HBS.out, .inr ⟨rfl, by rw [short_1 (by rw [HLE.out]; have := HMR.out; omega)]; rfl⟩⟩⟩
  · have t2 : decide ((nn : Int) < (str.size : Int)) = true := by have := HM.out; simp; omega
    have t3 : decide (nn < str.size) = true := by have := HM.out; simp; omega
    have sb : str.size ≤ 1000000 := by have := HM.out; omega
    obtain ⟨c, hc⟩ : ∃ c, RS[nn]? = some c := ⟨_, List.getElem?_eq_getElem (by have := HMR.out; omega)⟩
    have ix : ∀ w : World, (Instr.index 9 (.string str) (.int .i64 (nn : Int))).run Tryd.prog w = .ok (.int .u8 ((c.toNat : Nat) : Int)) w := fun w => str_at (s := str) (q := nn) (c := c) (by rw [HSTR.out]; exact hc) w
    obtain ⟨xx, hxx⟩ : ∃ xx : Int, xx = ((c.toNat : Nat) : Int) := ⟨_, rfl⟩
    rw [← hxx] at ix
    have HXX := Lib.hid hxx
    have HC := Lib.hid hc
    clear hxx hc
    by_cases h2 : m = nn + 1 ∧ xx = 13
    · obtain ⟨h2a, h2b⟩ := h2
      have t1 : decide ((str.size : Int) < z2) = true := by have := HZ2.out; have := HM.out; simp; omega
      go_big_quiet (fail)
      obtain ⟨W4, hW4⟩ : ∃ W4, W4 = W3.drewN nq := ⟨_, rfl⟩
      have D4 := HD3.out.below hx (W' := W4) (by rw [hW4]; exact below_drewN (Below.refl _ _) nq)
      rw [← hW4]
      have O6 := OutR.zero D4.is
      obtain ⟨E, hE⟩ : ∃ E, E = (Ev.none.cs (.slice none 0 0)) := ⟨_, rfl⟩
      have HE : Hid (E = [.int .i64 0, .slice none 0 0, .int .i64 0, .int .i64 0, .int .i64 0, .int .i64 0, .int .u64 0, .bool false, .string ⟨#[]⟩, .int .i64 0, .slice none 0 0, .bool false, .int .u64 0, .string ⟨#[]⟩, .int .i64 0, .int .i64 0, .int .i64 0, .int .i64 0]) := Lib.hid (by rw [hE]; rfl)
      rw [← hE] at O6
      obtain ⟨hl, ho, ht, hr, hq⟩ := chain_r hx D4.fr D4.res (Nat.le_refl _) O6
      have HL := Lib.hid hl
      have H1 := Lib.hid ho
      have HT := Lib.hid ht
      have HR := Lib.hid hr
      have HO := Lib.hid hq
      clear hl ho ht hr hq
      clear hE O6 D4 hW4
      go_wp2_with ((with_reducible show wpList _ _ _ (Oper.mk none (Op.store 44 (.tmp 2) _) _ _ _ _ :: _) _ _); refine wpList_store_mid (by rfl) 44 (.tmp 2) (.tmp 40) (by rfl) w.heap.size 0 E.toArray (by rfl) (by rw [HE.out]; rfl) HT.out (by rw [List.size_toArray, HL.out]; kernel_rfl) (all_oneCell_toArray H1.out) ?_; rw [show E.toArray.toList = E from rfl])
      exact bodyPost_ret (v := .tuple #[.agg E.toArray, .bool false]) (res2r Tryd.results42 (by rfl) (by rfl) HR.out HL.out) rfl ⟨E, pd [] q, RS, Ev.none, false, rfl, HO.out, ⟨HBS.out, .inr ⟨rfl, by rw [short_2 (by rw [HLE.out]; have := HMR.out; omega) (by rw [HLE.out, HC.out]; have := HXX.out; rw [show c = 13 from UInt8.toNat_inj.1 (show c.toNat = 13 by omega)])]; rfl⟩⟩⟩
    · -- it goes on
      have h2' : m = nn + 1 → xx ≠ 13 := fun e1 e2 => h2 ⟨e1, e2⟩
      have HH2 := Lib.hid h2'
      clear h2 h2'
      by_cases h3 : m = nn + 1
      case' pos =>
        have t1 : decide ((str.size : Int) < z2) = true := by have := HZ2.out; have := HM.out; simp; omega
        have n13 : ¬ xx = 13 := HH2.out h3
        have n13b : (xx != 13) = true := bne_iff_ne.2 n13
        have n13c : decide (xx = 13) = false := decide_eq_false n13
        go_big_quiet (fail)
      case' neg =>
        have t1 : decide ((str.size : Int) < z2) = false := by have := HZ2.out; have := HM.out; simp; omega
        go_big_quiet (fail)
      all_goals
        obtain ⟨W4, hW4⟩ : ∃ W4, W4 = W3.drewN nq := ⟨_, rfl⟩
        have D4 := HD3.out.below hx (W' := W4) (by rw [hW4]; exact below_drewN (Below.refl _ _) nq)
        rw [← hW4]
        obtain ⟨I5, F5⟩ := D4.is.wait hx (Ks.nil _ _) (r := Rq.none) (b' := pz 0) ⟨rfl, rfl, rfl, rfl⟩
        obtain ⟨W5, hW5⟩ : ∃ W5, W5 = W4.setCells P 1 (Rq.none.cs (.slice none 0 0)) := ⟨_, rfl⟩
        rw [← hW5] at I5 F5
        have D5 := D4.up hx F5 I5
        have HTP : Hid (W4.there P 1 9) := Lib.hid (fun j hj => by
          have := D4.is.there (1 + j) (by omega)
          rwa [Nat.zero_add] at this)
        have HD5 := Lib.hid D5
        have HW5 := Lib.hid hW5
        have HK5 : Hid (Ks W5 o3 (.slice ka kn kc) q.keys) := Lib.hid ((HD3.out.is.keys.fr (Fr.ofBelow (fun _ => False) o3 (w' := W4) (by rw [hW4]; exact below_drewN (Below.refl _ _) nq)) id).fr F5 (tx9 hx))
        clear D4 I5 F5 D5 hW4 hW5 c0 c4 ix t1
        go_wp2_with ((with_reducible show wpList _ _ _ (Oper.mk none (Op.store 30 (.tmp 44) _) _ _ _ _ :: _) _ _); refine wpList_store_mid (by rfl) 30 (.tmp 44) (.tmp 42) (by rfl) P 1 #[.int .i64 0, .slice none 0 0, .int .i64 0, .int .i64 0, .int .i64 0, .int .i64 0, .int .u64 0, .bool false, .string ⟨#[]⟩] (by rfl) (by rfl) HTP.out (by kernel_rfl) (all_oneCell_toArray zv_one) ?_; rw [show (#[Value.int .i64 0, .slice none 0 0, .int .i64 0, .int .i64 0, .int .i64 0, .int .i64 0, .int .u64 0, .bool false, .string ⟨#[]⟩] : Array Value).toList = Rq.none.cs (.slice none 0 0) from rfl, ← HW5.out])
        go_simp
        have c0 : W5.cell? ⟨P, 0, none⟩ = some (.string str) := by rw [HST2.out]; exact HD5.out.is.at_ 0 _ rfl
        have c4 := HB4.out _ HD5.out.rg
        have sl1 := str_hi str nn (by have := HM.out; omega)
        rw [HSTR.out] at sl1
        go_quiet (fail)
        go_wp2_with fail
        obtain ⟨W6, hW6⟩ : ∃ W6, W6 = W5.drewN nq := ⟨_, rfl⟩
        rw [← hW6]
        have D6 := HD5.out.below hx (W' := W6) (by rw [hW6]; exact below_drewN (Below.refl _ _) nq)
        have D7 := D6.below hx (W' := W6.drew) (below_drewN (Below.refl _ _) 1)
        have d0 : W6.cell? ⟨P, 0, none⟩ = some (.string str) := by rw [HST2.out]; exact D6.is.at_ 0 _ rfl
        have d4 := HB4.out _ D6.rg
        have z0 := D6.is.fz 0
        have sl2 := str_lo str nn (by have := HM.out; omega)
        rw [HSTR.out] at sl2
        obtain ⟨I8, F8⟩ := D7.is.set (b' := pz 0) (R' := RS.drop nn) hx 0 (.string (S (RS.drop nn))) (by omega) rfl rfl
        have HD8 := Lib.hid (D7.up hx F8 I8)
        have HK8 := Lib.hid (((HK5.out.fr (Fr.ofBelow (fun _ => False) o3 (w' := W6) (by rw [hW6]; exact below_drewN (Below.refl _ _) nq)) id).fr (Fr.drew1 (fun _ => False) o3 W6) id).fr F8 (tx9 hx))
        clear D6 D7 I8 F8 hW6 c0 c4 sl1
        go_region_law (fail)
        all_goals
          obtain ⟨W8, hW8⟩ : ∃ W8, W8 = W6.drew.setCell ⟨P, 0, none⟩ (.string (S (RS.drop nn))) := ⟨_, rfl⟩
          rw [show (W6.setCell ⟨P, 0, none⟩ (.string (S (RS.drop nn)))).drew = W8 by rw [hW8]; rfl]
          rw [← hW8] at HD8 HK8
          clear d0 d4 z0 sl2 hW8
          obtain ⟨str2, hstr2⟩ : ∃ str2, str2 = S (RS.drop nn) := ⟨_, rfl⟩
          have e0 : W8.cell? ⟨P, 0, none⟩ = some (.string str2) := by rw [hstr2]; exact HD8.out.is.at_ 0 _ rfl
          have hs2 : str2.size = m - nn := by rw [hstr2, S_size, List.length_drop]; have := HMR.out; omega
          have jx0 : ∀ w : World, (Instr.index 9 (.string str2) (.int .i64 0)).run Tryd.prog w = .ok (.int .u8 xx) w := fun w => by
            rw [HXX.out]
            exact str_at (s := str2) (q := 0) (c := c) (by rw [hstr2, L_S, List.getElem?_drop]; exact HC.out) w
          have HS2 := Lib.hid hs2
          have HSS2 := Lib.hid hstr2
          rw [← hstr2]
          clear hs2 hstr2
          have BAD : Hid (xx ≠ 13 ∨ (∃ d, RS[nn + 1]? = some d ∧ d ≠ 10) → feed (pd [] q) RS = thn (ans 13 badData) (feed (pz 3) (RS.drop nn))) := Lib.hid (fun h => by
            by_cases h13 : c = 13
            · rcases h with h | ⟨d, h1, h2⟩
              · exact absurd (by rw [HXX.out, h13]; rfl) h
              · have := bad_2 (q := q) (R := RS) (by rw [HLE.out, HC.out, h13]) (by rw [HLE.out]; exact h1) h2
                rw [HLE.out] at this
                exact this
            · have := bad_1 (q := q) (R := RS) (by rw [HLE.out]; exact HC.out) h13
              rw [HLE.out] at this
              exact this)
          by_cases g1 : m - nn < 2
          · first
            | (exfalso; clear BAD HH2; omega)
            | skip
            all_goals
              have u1 : decide ((str2.size : Int) < 2) = true := by have := HS2.out; simp; omega
              have hne : xx ≠ 13 := HH2.out (by omega)
              have HBD := Lib.hid (BAD.out (.inl hne))
              have q11 : W8.cell? ⟨P, 11, none⟩ = some (.bool false) := HD8.out.is.at_ 11 _ rfl
              have z11 := HD8.out.is.fz 11
              obtain ⟨I9, F9⟩ := HD8.out.is.set (b' := pz 3) (R' := RS.drop nn) hx 11 (.bool true) (by omega) rfl rfl
              have HD9 := Lib.hid (HD8.out.up hx F9 I9)
              clear I9 F9
              go_wp2_with fail
              refine (client_any badData ⟨#[98, 97, 100, 32, 100, 97, 116, 97, 32, 99, 104, 117, 110, 107]⟩ rfl _).mono ?_
              rintro e w10 ⟨rfl, b10⟩
              have D10 := HD9.out.below hx b10
              have O6 := OutR.say HD9.out.is b10 13 badData
              obtain ⟨E, hE⟩ : ∃ E, E = (ans 13 badData).cs (.slice none 0 0) := ⟨_, rfl⟩
              rw [← hE] at O6 ⊢
              obtain ⟨hl, ho, ht, hr, hq⟩ := chain_r hx HD9.out.fr HD9.out.res (Nat.le_refl _) O6
              have HL := Lib.hid hl
              have H1 := Lib.hid ho
              have HT := Lib.hid ht
              have HR := Lib.hid hr
              have HO := Lib.hid hq
              clear hl ho ht hr hq
              clear hE O6 D10 b10
              go_wp2_with ((with_reducible show wpList _ _ _ (Oper.mk none (Op.store 44 (.tmp 2) _) _ _ _ _ :: _) _ _); refine wpList_store_mid (by rfl) 44 (.tmp 2) (.tmp 87) (by rfl) w.heap.size 0 E.toArray (by rfl) (by rfl) HT.out (by rw [List.size_toArray, HL.out]; kernel_rfl) (all_oneCell_toArray H1.out) ?_; rw [show E.toArray.toList = E from rfl])
              exact bodyPost_ret (v := .tuple #[.agg E.toArray, .bool true]) (res2r Tryd.results42 (by rfl) (by rfl) HR.out HL.out) rfl ⟨E, pz 3, RS.drop nn, ans 13 badData, true, rfl, HO.out, ⟨bs_pz 3 (.inr (.inl rfl)), .inl ⟨rfl, HBD.out, by rw [List.length_drop]; show 2 * _ + 0 < 2 * _ + 1; omega, fun h => absurd h (by decide)⟩⟩⟩
          · first
            | (exfalso; clear BAD HH2; omega)
            | skip
            all_goals
              have u1 : decide ((str2.size : Int) < 2) = false := by have := HS2.out; simp; omega
              have u0 : 2 ≤ str2.size := by have := HS2.out; omega
              by_cases g2 : xx = 13
              · obtain ⟨d, hd⟩ : ∃ d, RS[nn + 1]? = some d := ⟨_, List.getElem?_eq_getElem (by have := HMR.out; omega)⟩
                obtain ⟨yy, hyy⟩ : ∃ yy : Int, yy = ((d.toNat : Nat) : Int) := ⟨_, rfl⟩
                have jx1 : ∀ w : World, (Instr.index 9 (.string str2) (.int .i64 1)).run Tryd.prog w = .ok (.int .u8 yy) w := fun w => by
                  rw [hyy]
                  exact str_at (s := str2) (q := 1) (c := d) (by rw [HSS2.out, L_S, List.getElem?_drop]; exact hd) w
                have HYY := Lib.hid hyy
                have HDD := Lib.hid hd
                clear hyy hd
                by_cases g3 : yy = 10
                · have HGD := Lib.hid (good_2 (q := q) (R := RS) (by rw [HLE.out, HC.out]; rw [show c = 13 from UInt8.toNat_inj.1 (show c.toNat = 13 by have := HXX.out; omega)]) (by rw [HLE.out, HDD.out]; rw [show d = 10 from UInt8.toNat_inj.1 (show d.toNat = 10 by have := HYY.out; omega)]))
                  rw [HLE.out] at HGD
                  have z0 := HD8.out.is.fz 0
                  have sl3 := str_lo str2 2 u0
                  rw [show (L str2).drop 2 = RS.drop (nn + 2) by rw [HSS2.out, L_S, List.drop_drop]] at sl3
                  rw [show ((2 : Nat) : Int) = 2 from rfl] at sl3
                  obtain ⟨I9, F9⟩ := HD8.out.is.set (b' := pz 0) (R' := RS.drop (nn + 2)) hx 0 (.string (S (RS.drop (nn + 2)))) (by omega) rfl rfl
                  have D9 := HD8.out.up hx F9 I9
                  have q8 : (W8.setCell ⟨P, 0, none⟩ (.string (S (RS.drop (nn + 2))))).cell? ⟨w.heap.size + 1, 8, none⟩ = some (.string ⟨#[]⟩) := by
                    have := D9.rg 8 (.string ⟨#[]⟩) (by rw [HRR.out]; rfl)
                    rwa [Nat.zero_add] at this
                  have z8 : (W8.setCell ⟨P, 0, none⟩ (.string (S (RS.drop (nn + 2))))).frozen? ⟨w.heap.size + 1, 8, none⟩ = false := by
                    have := (D9.th 8 (by omega)).2
                    rwa [Nat.zero_add] at this
                  obtain ⟨F11, I11, R11, G11⟩ := D9.data hx (by omega) HRL.out (.string (S (RS.take nn)))
                  obtain ⟨W11, hW11⟩ : ∃ W11, W11 = (W8.setCell ⟨P, 0, none⟩ (.string (S (RS.drop (nn + 2))))).setCell ⟨w.heap.size + 1, 8, none⟩ (.string (S (RS.take nn))) := ⟨_, rfl⟩
                  rw [← hW11] at F11 I11 R11 G11
                  have k11 : Ks W11 o3 (.slice ka kn kc) q.keys := by rw [hW11]; exact (HK8.out.fr F9 (tx9 hx)).fr (Fr.set (T := (· = (8, 7))) (a := ⟨w.heap.size + 1, 8, none⟩) D9.mark _) (fun e => by cases e)
                  rw [HRR.out] at G11
                  rw [show (q.cs (.slice ka kn kc)).set 8 (.string (S (RS.take nn))) = [.int .i64 ((q.verb : Nat) : Int), .slice ka kn kc, .int .i64 q.flags, .int .i64 q.exp, .int .i64 (nn : Int), .int .i64 q.cas, .int .u64 ((q.delta : Nat) : Int), .bool q.quiet, .string (S (RS.take nn))] by rw [← HNN.out]; rfl] at G11
                  have O6 : OutR W11 o3 x P (pz 0) (RS.drop (nn + 2)) (req q (RS.take nn)) ((req q (RS.take nn)).cs (.slice ka kn kc)) W11 := ⟨o3, none, 0, 0, ⟨ka, kn, kc, rfl, k11⟩, I11, Fr.refl _ _ _⟩
                  obtain ⟨E, hE⟩ : ∃ E, E = (req q (RS.take nn)).cs (.slice ka kn kc) := ⟨_, rfl⟩
                  have HE : Hid (E = [.int .i64 ((q.verb : Nat) : Int), .slice ka kn kc, .int .i64 q.flags, .int .i64 q.exp, .int .i64 (nn : Int), .int .i64 q.cas, .int .u64 ((q.delta : Nat) : Int), .bool q.quiet, .string (S (RS.take nn)), .int .i64 0, .slice none 0 0, .bool false, .int .u64 0, .string ⟨#[]⟩, .int .i64 0, .int .i64 0, .int .i64 0, .int .i64 0]) := Lib.hid (by rw [hE, ← HNN.out]; rfl)
                  rw [← hE] at O6
                  obtain ⟨hl, ho, ht, hr, hq⟩ := chain_r hx F11 R11 (Nat.le_refl _) O6
                  have HL := Lib.hid hl
                  have H1 := Lib.hid ho
                  have HT := Lib.hid ht
                  have HR := Lib.hid hr
                  have HO := Lib.hid hq
                  clear hl ho ht hr hq
                  obtain ⟨R9, hR9⟩ : ∃ R9, R9 = ([.int .i64 ((q.verb : Nat) : Int), .slice ka kn kc, .int .i64 q.flags, .int .i64 q.exp, .int .i64 (nn : Int), .int .i64 q.cas, .int .u64 ((q.delta : Nat) : Int), .bool q.quiet, .string (S (RS.take nn))] : List Value) := ⟨_, rfl⟩
                  rw [← hR9] at G11
                  have HG11 := Lib.hid G11
                  have HR9 := Lib.hid hR9
                  have HR9L : Hid (R9.length = 9) := Lib.hid (by rw [hR9]; rfl)
                  have HW11 := Lib.hid hW11
                  clear hE O6 D9 I9 F9 F11 I11 R11 G11 k11 hR9 hW11
                  go_wp2_with (first
                    | ((with_reducible show wpList _ _ _ (Oper.mk (some _) (Op.load 30 (.tmp 4)) _ _ _ _ :: _) _ _); rw [← HW11.out]; refine wpList_load_mid (by rfl) 30 (.tmp 4) (by rfl) (w.heap.size + 1) 0 (by rfl) R9 _ HG11.out Tryd.underlying30 (by rfl) (by rw [HR9L.out]; kernel_rfl) ?_; rw [HR9.out])
                    | ((with_reducible show wpList _ _ _ (Oper.mk none (Op.store 44 (.tmp 2) _) _ _ _ _ :: _) _ _); refine wpList_store_mid (by rfl) 44 (.tmp 2) (.tmp 99) (by rfl) w.heap.size 0 E.toArray (by rfl) (by rw [HE.out]; rfl) HT.out (by rw [List.size_toArray, HL.out]; kernel_rfl) (all_oneCell_toArray H1.out) ?_; rw [show E.toArray.toList = E from rfl]))
                  exact bodyPost_ret (v := .tuple #[.agg E.toArray, .bool true]) (res2r Tryd.results42 (by rfl) (by rfl) HR.out HL.out) rfl ⟨E, pz 0, RS.drop (nn + 2), req q (RS.take nn), true, rfl, HO.out, ⟨bs_pz 0 (.inl rfl), .inl ⟨rfl, HGD.out, by rw [List.length_drop]; show 2 * _ + 0 < 2 * _ + 1; omega, fun h => absurd h (by decide)⟩⟩⟩
                · have HBD := Lib.hid (BAD.out (.inr ⟨d, HDD.out, fun e => g3 (by rw [HYY.out, e]; rfl)⟩))
                  have q11 : W8.cell? ⟨P, 11, none⟩ = some (.bool false) := HD8.out.is.at_ 11 _ rfl
                  have z11 := HD8.out.is.fz 11
                  obtain ⟨I9, F9⟩ := HD8.out.is.set (b' := pz 3) (R' := RS.drop nn) hx 11 (.bool true) (by omega) rfl rfl
                  have HD9 := Lib.hid (HD8.out.up hx F9 I9)
                  clear I9 F9
                  go_wp2_with fail
                  refine (client_any badData ⟨#[98, 97, 100, 32, 100, 97, 116, 97, 32, 99, 104, 117, 110, 107]⟩ rfl _).mono ?_
                  rintro e w10 ⟨rfl, b10⟩
                  have D10 := HD9.out.below hx b10
                  have O6 := OutR.say HD9.out.is b10 13 badData
                  obtain ⟨E, hE⟩ : ∃ E, E = (ans 13 badData).cs (.slice none 0 0) := ⟨_, rfl⟩
                  rw [← hE] at O6 ⊢
                  obtain ⟨hl, ho, ht, hr, hq⟩ := chain_r hx HD9.out.fr HD9.out.res (Nat.le_refl _) O6
                  have HL := Lib.hid hl
                  have H1 := Lib.hid ho
                  have HT := Lib.hid ht
                  have HR := Lib.hid hr
                  have HO := Lib.hid hq
                  clear hl ho ht hr hq
                  clear hE O6 D10 b10
                  go_wp2_with ((with_reducible show wpList _ _ _ (Oper.mk none (Op.store 44 (.tmp 2) _) _ _ _ _ :: _) _ _); refine wpList_store_mid (by rfl) 44 (.tmp 2) (.tmp 87) (by rfl) w.heap.size 0 E.toArray (by rfl) (by rfl) HT.out (by rw [List.size_toArray, HL.out]; kernel_rfl) (all_oneCell_toArray H1.out) ?_; rw [show E.toArray.toList = E from rfl])
                  exact bodyPost_ret (v := .tuple #[.agg E.toArray, .bool true]) (res2r Tryd.results42 (by rfl) (by rfl) HR.out HL.out) rfl ⟨E, pz 3, RS.drop nn, ans 13 badData, true, rfl, HO.out, ⟨bs_pz 3 (.inr (.inl rfl)), .inl ⟨rfl, HBD.out, by rw [List.length_drop]; show 2 * _ + 0 < 2 * _ + 1; omega, fun h => absurd h (by decide)⟩⟩⟩
              · have HBD := Lib.hid (BAD.out (.inl g2))
                have q11 : W8.cell? ⟨P, 11, none⟩ = some (.bool false) := HD8.out.is.at_ 11 _ rfl
                have z11 := HD8.out.is.fz 11
                obtain ⟨I9, F9⟩ := HD8.out.is.set (b' := pz 3) (R' := RS.drop nn) hx 11 (.bool true) (by omega) rfl rfl
                have HD9 := Lib.hid (HD8.out.up hx F9 I9)
                clear I9 F9
                go_wp2_with fail
                refine (client_any badData ⟨#[98, 97, 100, 32, 100, 97, 116, 97, 32, 99, 104, 117, 110, 107]⟩ rfl _).mono ?_
                rintro e w10 ⟨rfl, b10⟩
                have D10 := HD9.out.below hx b10
                have O6 := OutR.say HD9.out.is b10 13 badData
                obtain ⟨E, hE⟩ : ∃ E, E = (ans 13 badData).cs (.slice none 0 0) := ⟨_, rfl⟩
                rw [← hE] at O6 ⊢
                obtain ⟨hl, ho, ht, hr, hq⟩ := chain_r hx HD9.out.fr HD9.out.res (Nat.le_refl _) O6
                have HL := Lib.hid hl
                have H1 := Lib.hid ho
                have HT := Lib.hid ht
                have HR := Lib.hid hr
                have HO := Lib.hid hq
                clear hl ho ht hr hq
                clear hE O6 D10 b10
                go_wp2_with ((with_reducible show wpList _ _ _ (Oper.mk none (Op.store 44 (.tmp 2) _) _ _ _ _ :: _) _ _); refine wpList_store_mid (by rfl) 44 (.tmp 2) (.tmp 87) (by rfl) w.heap.size 0 E.toArray (by rfl) (by rfl) HT.out (by rw [List.size_toArray, HL.out]; kernel_rfl) (all_oneCell_toArray H1.out) ?_; rw [show E.toArray.toList = E from rfl])
                exact bodyPost_ret (v := .tuple #[.agg E.toArray, .bool true]) (res2r Tryd.results42 (by rfl) (by rfl) HR.out HL.out) rfl ⟨E, pz 3, RS.drop nn, ans 13 badData, true, rfl, HO.out, ⟨bs_pz 3 (.inr (.inl rfl)), .inl ⟨rfl, HBD.out, by rw [List.length_drop]; show 2 * _ + 0 < 2 * _ + 1; omega, fun h => absurd h (by decide)⟩⟩⟩
end Go.Proofs.YtedbklipbfbmoaaDoor
