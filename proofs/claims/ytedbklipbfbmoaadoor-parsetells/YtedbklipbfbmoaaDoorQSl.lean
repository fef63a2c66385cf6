/-
  step of the reference, case by case.
-/
import Derived.Test.YtedbklipbfbmoaaDoorQDw
namespace Go.Proofs.YtedbklipbfbmoaaDoor
open Go.RowKit

set_option maxRecDepth 100000 in
set_option maxHeartbeats 2000000 in
theorem stepR_pd {o : Nat → Nat × Nat} {x P : Nat} {q : Rq} {RS : B} {ka : Option Addr} {kn kc : Nat} (hx : x < 8) (hRS : RS.length ≤ 1000000) (h3 : 3 ≤ q.verb) (hq0 : 0 ≤ q.bytes) (hq1 : q.bytes ≤ 1048576) (hb : Bs (pd [] q)) (w : World) (h : IsRf w o x P (pd [] q) RS ka kn kc) :
    Calls Tryd.prog 25 #[.pointer (some ⟨P, 0, none⟩)] w fun e w' => SOut w o x P (pd [] q) RS e w' := by
  obtain ⟨W1, hW1⟩ : ∃ W1, W1 = w.alloc (.cells #[.int .i64 0, .slice none 0 0, .int .i64 0, .int .i64 0, .int .i64 0, .int .i64 0, .int .u64 0, .bool false, .string ⟨#[]⟩, .int .i64 0, .slice none 0 0, .bool false, .int .u64 0, .string ⟨#[]⟩, .int .i64 0, .int .i64 0, .int .i64 0, .int .i64 0] 44) := ⟨_, rfl⟩
  obtain ⟨o1, ho1⟩ : ∃ o1, o1 = lab o w.heap.size (8, 8) := ⟨_, rfl⟩
  have F1 : Fr (fun _ => False) o o1 w W1 := by rw [hW1, ho1]; exact Fr.new _ _ _ _ _
  have R1 : Res W1 o1 w.heap.size := by rw [hW1, ho1]; exact Res.new44 _ _
  have I1 := h.fr F1 id id
  have F1x : Fr (TX x) o o1 w W1 := F1.mono (fun _ h => h.elim)
  have H := Lib.hid (And.intro F1x (And.intro I1 R1))
  have HW1 := Lib.hid hW1
  have c10 : W1.cell? ⟨P, 10, none⟩ = some (.int .i64 0) := I1.at_ 10 _ rfl
  have c1 : W1.cell? ⟨P, 1, none⟩ = some (.int .i64 ((q.verb : Nat) : Int)) := I1.at_ 1 _ rfl
  have HDT := Lib.hid (dataR_any hx hRS q.bytes.toNat (by omega) (by omega) hb W1 I1)
  rw [hW1] at c10 c1 HDT
  obtain ⟨V, hV⟩ : ∃ V : Int, V = ((q.verb : Nat) : Int) := ⟨_, rfl⟩
  rw [← hV] at c1
  have hv0 : ¬ V = 0 := by omega
  clear F1 R1 I1 h ho1 F1x hW1 hV
  go_enter Tryd.func25, Tryd.ntmps25
  go_wp2_with fail
  refine HDT.out.mono ?_
  rintro e w2 ⟨E, b', R', ev, more, rfl, O2, hrel⟩
  rw [← HW1.out] at O2
  obtain ⟨F1, I1, R1⟩ := H.out
  obtain ⟨hl, ho, ht, hr, hq⟩ := chain_r hx F1 R1 (Nat.le_refl _) O2
  have HL := Lib.hid hl
  have H1 := Lib.hid ho
  have HT := Lib.hid ht
  have HR := Lib.hid hr
  have HO := Lib.hid hq
  clear hl ho ht hr hq
  have HREL := Lib.hid hrel
  clear F1 I1 R1 O2 hrel H
  go_wp2_with ((with_reducible show wpList _ _ _ (Oper.mk none (Op.store 44 (.tmp 2) _) _ _ _ _ :: _) _ _); refine wpList_store_mid (by rfl) 44 (.tmp 2) (.tmp 54) (by rfl) w.heap.size 0 E.toArray (by rfl) (by rfl) HT.out (by rw [List.size_toArray, HL.out]; kernel_rfl) (all_oneCell_toArray H1.out) ?_; rw [show E.toArray.toList = E from rfl])
  exact bodyPost_ret (v := .tuple #[.agg E.toArray, .bool more]) (res2r Tryd.results25 (by rfl) (by rfl) HR.out HL.out) rfl ⟨E, b', R', ev, more, rfl, HO.out, HREL.out⟩
end Go.Proofs.YtedbklipbfbmoaaDoor


namespace Go.Proofs.YtedbklipbfbmoaaDoor
open Go.RowKit

set_option maxRecDepth 100000 in
set_option maxHeartbeats 2000000 in
theorem stepR_3 {o : Nat → Nat × Nat} {x P : Nat} {RS : B} {ka : Option Addr} {kn kc : Nat} (hx : x < 8) (hRS : RS.length ≤ 1000000) (w : World) (h : IsRf w o x P (pz 3) RS ka kn kc) :
    Calls Tryd.prog 25 #[.pointer (some ⟨P, 0, none⟩)] w fun e w' => SOut w o x P (pz 3) RS e w' := by
  obtain ⟨W1, hW1⟩ : ∃ W1, W1 = w.alloc (.cells #[.int .i64 0, .slice none 0 0, .int .i64 0, .int .i64 0, .int .i64 0, .int .i64 0, .int .u64 0, .bool false, .string ⟨#[]⟩, .int .i64 0, .slice none 0 0, .bool false, .int .u64 0, .string ⟨#[]⟩, .int .i64 0, .int .i64 0, .int .i64 0, .int .i64 0] 44) := ⟨_, rfl⟩
  obtain ⟨o1, ho1⟩ : ∃ o1, o1 = lab o w.heap.size (8, 8) := ⟨_, rfl⟩
  have F1 : Fr (fun _ => False) o o1 w W1 := by rw [hW1, ho1]; exact Fr.new _ _ _ _ _
  have R1 : Res W1 o1 w.heap.size := by rw [hW1, ho1]; exact Res.new44 _ _
  have I1 := h.fr F1 id id
  have F1x : Fr (TX x) o o1 w W1 := F1.mono (fun _ h => h.elim)
  have H := Lib.hid (And.intro F1x (And.intro I1 R1))
  have HW1 := Lib.hid hW1
  obtain ⟨str, hstr⟩ : ∃ str, str = S RS := ⟨_, rfl⟩
  have hsz : str.size = RS.length := by rw [hstr, S_size]
  have hLs : L str = RS := by rw [hstr]; rfl
  have HSTR := Lib.hid hLs
  have HSZ := Lib.hid hsz
  have HST2 := Lib.hid hstr
  have sb : str.size ≤ 1000000 := by omega
  have c10 : W1.cell? ⟨P, 10, none⟩ = some (.int .i64 0) := I1.at_ 10 _ rfl
  have c1 : W1.cell? ⟨P, 1, none⟩ = some (.int .i64 0) := I1.at_ 1 _ rfl
  have c0 : W1.cell? ⟨P, 0, none⟩ = some (.string str) := by rw [hstr]; exact I1.at_ 0 _ rfl
  have c11 : W1.cell? ⟨P, 11, none⟩ = some (.bool true) := I1.at_ 11 _ rfl
  have z0 := I1.fz 0
  have z11 := I1.fz 11
  obtain ⟨I5, F5⟩ := I1.set (b' := pz 3) (R' := []) hx 0 (.string ⟨#[]⟩) (by omega) rfl rfl
  have H5 := Lib.hid (And.intro (F1x.trans F5) (And.intro I5 (R1.fr F5 (tx8 hx))))
  clear I5 F5
  have e10 := c10
  have e1 := c1
  have e0 := c0
  rw [hW1] at e10 e1 e0
  clear F1 R1 I1 h ho1 F1x hW1 hsz hLs hstr hRS
  go_enter Tryd.func25, Tryd.ntmps25
  go_wp2_with fail
  rw [← HW1.out]
  clear e10 e1 e0
  go_loopw [5] (fun i wr => ∃ j : Nat, j ≤ str.size ∧ i = .int .i64 (j : Int) ∧ Hid (10 ∉ RS.take j) ∧ W1 = wr) (fun i _ => str.size - (intOf i).toNat)
  case atStart => exact ⟨0, by omega, rfl, Lib.hid (by simp), rfl⟩
  case round =>
    obtain ⟨j, hj, rfl, HN, rfl⟩ := hrel
    by_cases hlt : j < str.size
    · have hi1 : (j : Int) < (str.size : Int) := by omega
      obtain ⟨c, hc⟩ : ∃ c, RS[j]? = some c := ⟨_, List.getElem?_eq_getElem (by rw [← HSZ.out]; exact hlt)⟩
      have ix : ∀ w : World, (Instr.index 9 (.string str) (.int .i64 (j : Int))).run Tryd.prog w = .ok (.int .u8 ((c.toNat : Nat) : Int)) w := fun w => str_at (s := str) (q := j) (c := c) (by rw [HSTR.out]; exact hc) w
      obtain ⟨xx, hxx⟩ : ∃ xx : Int, xx = ((c.toNat : Nat) : Int) := ⟨_, rfl⟩
      rw [← hxx] at ix
      have HXX := Lib.hid hxx
      have HC := Lib.hid hc
      clear hxx hc
      by_cases hx10 : xx = 10
      · have HQ : Hid (RS = RS.take j ++ 10 :: RS.drop (j + 1) ∧ (RS.take j).length = j) := Lib.hid (by
          have := split_n HC.out
          rw [show c = 10 from UInt8.toNat_inj.1 (show c.toNat = 10 by have := HXX.out; omega)] at this
          exact this)
        have jne : ¬ ((j : Int) = (str.size : Int)) := by omega
        have jne2 : ¬ (j = str.size) := by omega
        have sl := str_lo str (j + 1) (by omega)
        rw [HSTR.out] at sl
        rw [show ((j + 1 : Nat) : Int) = (j : Int) + 1 from rfl] at sl
        have wr1 : IntKind.i64.wrap ((j : Int) + 1) = (j : Int) + 1 := by rw [IntKind.wrap_i64]; omega
        go_wp2_with fail
        go_region_law (fail)
        obtain ⟨F1, I1, R1⟩ := H.out
        obtain ⟨I6, F6⟩ := I1.set (b' := pz 0) (R' := RS) hx 11 (.bool false) (by omega) rfl rfl
        obtain ⟨I7, F7⟩ := I6.set (b' := pz 0) (R' := RS.drop (j + 1)) hx 0 (.string (S (RS.drop (j + 1)))) (by omega) rfl rfl
        obtain ⟨W7, hW7⟩ : ∃ W7, W7 = ((W1.setCell ⟨P, 11, none⟩ (.bool false)).setCell ⟨P, 0, none⟩ (.string (S (RS.drop (j + 1))))).drew := ⟨_, rfl⟩
        have F8 : Fr (fun _ => False) o1 o1 ((W1.setCell ⟨P, 11, none⟩ (.bool false)).setCell ⟨P, 0, none⟩ (.string (S (RS.drop (j + 1))))) W7 := by rw [hW7]; exact Fr.drew1 _ _ _
        have I8 := I7.fr F8 id id
        have R8 := ((R1.fr F6 (tx8 hx)).fr F7 (tx8 hx)).fr F8 id
        have G8 : Fr (TX x) o o1 w W7 := ((F1.trans F6).trans F7).trans (F8.mono (fun _ h => h.elim))
        rw [← hW7]
        have O6 := OutR.zero I8
        obtain ⟨E, hE⟩ : ∃ E, E = (Ev.none.cs (.slice none 0 0)) := ⟨_, rfl⟩
        have HE : Hid (E = [.int .i64 0, .slice none 0 0, .int .i64 0, .int .i64 0, .int .i64 0, .int .i64 0, .int .u64 0, .bool false, .string ⟨#[]⟩, .int .i64 0, .slice none 0 0, .bool false, .int .u64 0, .string ⟨#[]⟩, .int .i64 0, .int .i64 0, .int .i64 0, .int .i64 0]) := Lib.hid (by rw [hE]; rfl)
        rw [← hE] at O6
        obtain ⟨hl, ho, ht, hr, hq⟩ := chain_r hx G8 R8 (Nat.le_refl _) O6
        have HL := Lib.hid hl
        have H1 := Lib.hid ho
        have HT := Lib.hid ht
        have HR := Lib.hid hr
        have HO := Lib.hid hq
        clear hl ho ht hr hq
        clear hE O6 F1 I1 R1 I6 F6 I7 F7 F8 I8 R8 G8 hW7 c0 c1 c10 c11 z0 z11 ix sl
        go_wp2_with ((with_reducible show wpList _ _ _ (Oper.mk none (Op.store 44 (.tmp 2) _) _ _ _ _ :: _) _ _); refine wpList_store_mid (by rfl) 44 (.tmp 2) (.tmp 102) (by rfl) w.heap.size 0 E.toArray (by rfl) (by rw [HE.out]; rfl) HT.out (by rw [List.size_toArray, HL.out]; kernel_rfl) (all_oneCell_toArray H1.out) ?_; rw [show E.toArray.toList = E from rfl])
        exact bodyPost_ret (v := .tuple #[.agg E.toArray, .bool true]) (res2r Tryd.results25 (by rfl) (by rfl) HR.out HL.out) rfl ⟨E, pz 0, RS.drop (j + 1), Ev.none, true, rfl, HO.out, ⟨bs_pz 0 (.inl rfl), .inl ⟨rfl, (congrArg (feed (pz 3)) HQ.out.1).trans (feed_3_end _ _ HN.out), by rw [List.length_drop]; show 2 * _ + 0 < 2 * _ + 0; have := HSZ.out; omega, fun h => absurd h (by decide)⟩⟩⟩
      · go_wp2_with fail
        refine ⟨⟨j + 1, by omega, by go_num, Lib.hid (fun hm => ?_), trivial⟩, by simp [intOf]; omega⟩
        rw [List.take_add_one, HC.out] at hm
        rcases List.mem_append.1 hm with hm | hm
        · exact HN.out hm
        · simp at hm
          apply hx10
          rw [HXX.out, ← hm]; rfl
    · have hjm : j = str.size := by omega
      have hi1 : decide ((j : Int) < (str.size : Int)) = false := by simp; omega
      have HNA : Hid (10 ∉ RS) := Lib.hid (by have := HN.out; rw [hjm, HSZ.out, List.take_length] at this; exact this)
      clear HN hlt hj
      subst hjm
      obtain ⟨F5, I5, R5⟩ := H5.out
      have O6 := OutR.zero I5
      obtain ⟨E, hE⟩ : ∃ E, E = (Ev.none.cs (.slice none 0 0)) := ⟨_, rfl⟩
      have HE : Hid (E = [.int .i64 0, .slice none 0 0, .int .i64 0, .int .i64 0, .int .i64 0, .int .i64 0, .int .u64 0, .bool false, .string ⟨#[]⟩, .int .i64 0, .slice none 0 0, .bool false, .int .u64 0, .string ⟨#[]⟩, .int .i64 0, .int .i64 0, .int .i64 0, .int .i64 0]) := Lib.hid (by rw [hE]; rfl)
      rw [← hE] at O6
      obtain ⟨hl, ho, ht, hr, hq⟩ := chain_r hx F5 R5 (Nat.le_refl _) O6
      have HL := Lib.hid hl
      have H1 := Lib.hid ho
      have HT := Lib.hid ht
      have HR := Lib.hid hr
      have HO := Lib.hid hq
      clear hl ho ht hr hq
      clear hE O6 F5 I5 R5
      go_wp2_with ((with_reducible show wpList _ _ _ (Oper.mk none (Op.store 44 (.tmp 2) _) _ _ _ _ :: _) _ _); refine wpList_store_mid (by rfl) 44 (.tmp 2) (.tmp 88) (by rfl) w.heap.size 0 E.toArray (by rfl) (by rw [HE.out]; rfl) HT.out (by rw [List.size_toArray, HL.out]; kernel_rfl) (all_oneCell_toArray H1.out) ?_; rw [show E.toArray.toList = E from rfl])
      exact bodyPost_ret (v := .tuple #[.agg E.toArray, .bool false]) (res2r Tryd.results25 (by rfl) (by rfl) HR.out HL.out) rfl ⟨E, pz 3, [], Ev.none, false, rfl, HO.out, ⟨bs_pz 3 (.inr (.inl rfl)), .inr ⟨rfl, by rw [feed_3 RS HNA.out]; rfl⟩⟩⟩
end Go.Proofs.YtedbklipbfbmoaaDoor


namespace Go.Proofs.YtedbklipbfbmoaaDoor
open Go.RowKit

theorem trim_nil : trim [] = [] := rfl
theorem trim_app (l : B) (c : UInt8) : trim (l ++ [c]) = if c = 13 then l else l ++ [c] := by
  unfold trim Lib.trimSuffix Lib.hasSuffix
  by_cases h : c = 13
  · subst h
    rw [if_pos rfl, if_pos (by simp [List.isSuffixOf_iff_suffix])]
    simp
  · rw [if_neg h, if_neg (by
      rw [List.isSuffixOf_iff_suffix]
      rintro ⟨t, ht⟩
      have := congrArg List.getLast? ht
      simp at this
      exact h this.symm)]
theorem obey_left (l : B) : (obey l).1.left = [] := by
  unfold obey obeyR
  split
  · rfl
  · split
    · rfl
    · split
      · rfl
      · split
        · split <;> rfl
        · rfl
theorem obey_shut (l : B) (h : (obey l).1.st = 4) : (obey l).1 = pz 4 := by
  unfold obey obeyR at h ⊢
  split
  · rename_i h1; rw [if_pos h1] at h; cases h
  · rename_i h1
    rw [if_neg h1] at h
    split
    · rename_i h2; rw [if_pos h2] at h; cases h
    · rename_i h2
      rw [if_neg h2] at h
      split
      · rfl
      · rename_i h3
        rw [if_neg h3] at h
        split
        · rename_i h4
          rw [if_pos h4] at h
          split
          · rename_i h5; rw [if_pos h5] at h; cases h
          · rename_i h5; rw [if_neg h5] at h; cases h
        · rename_i h4; rw [if_neg h4] at h; cases h
theorem feed_lft (l R : B) : feed (obey l).1 R = feed (obey l).1 (lft (obey l).1 R) := by
  unfold lft
  by_cases h : (obey l).1.st = 4
  · rw [if_pos h, obey_shut l h, feed_shut, feed_shut]
  · rw [if_neg h]
theorem bs_obey (l : B) : Bs (obey l).1 := ⟨obey_left l, okp_obey l⟩
set_option maxRecDepth 100000 in
set_option maxHeartbeats 2000000 in
theorem stepR_l {o : Nat → Nat × Nat} {x P : Nat} {RS : B} {ka : Option Addr} {kn kc : Nat} (hx : x < 8) (hRS : RS.length ≤ 1000000) (w : World) (h : IsRf w o x P (pz 0) RS ka kn kc) :
    Calls Tryd.prog 25 #[.pointer (some ⟨P, 0, none⟩)] w fun e w' => SOut w o x P (pz 0) RS e w' := by
  obtain ⟨W1, hW1⟩ : ∃ W1, W1 = w.alloc (.cells #[.int .i64 0, .slice none 0 0, .int .i64 0, .int .i64 0, .int .i64 0, .int .i64 0, .int .u64 0, .bool false, .string ⟨#[]⟩, .int .i64 0, .slice none 0 0, .bool false, .int .u64 0, .string ⟨#[]⟩, .int .i64 0, .int .i64 0, .int .i64 0, .int .i64 0] 44) := ⟨_, rfl⟩
  obtain ⟨o1, ho1⟩ : ∃ o1, o1 = lab o w.heap.size (8, 8) := ⟨_, rfl⟩
  have F1 : Fr (fun _ => False) o o1 w W1 := by rw [hW1, ho1]; exact Fr.new _ _ _ _ _
  have R1 : Res W1 o1 w.heap.size := by rw [hW1, ho1]; exact Res.new44 _ _
  have I1 := h.fr F1 id id
  have F1x : Fr (TX x) o o1 w W1 := F1.mono (fun _ h => h.elim)
  have H := Lib.hid (And.intro F1x (And.intro I1 R1))
  have HW1 := Lib.hid hW1
  obtain ⟨str, hstr⟩ : ∃ str, str = S RS := ⟨_, rfl⟩
  have hsz : str.size = RS.length := by rw [hstr, S_size]
  have hLs : L str = RS := by rw [hstr]; rfl
  have HSTR := Lib.hid hLs
  have HSZ := Lib.hid hsz
  have HST2 := Lib.hid hstr
  have sb : str.size ≤ 1000000 := by omega
  have c10 : W1.cell? ⟨P, 10, none⟩ = some (.int .i64 0) := I1.at_ 10 _ rfl
  have c1 : W1.cell? ⟨P, 1, none⟩ = some (.int .i64 0) := I1.at_ 1 _ rfl
  have c0 : W1.cell? ⟨P, 0, none⟩ = some (.string str) := by rw [hstr]; exact I1.at_ 0 _ rfl
  have c11 : W1.cell? ⟨P, 11, none⟩ = some (.bool false) := I1.at_ 11 _ rfl
  have c12 : W1.cell? ⟨P, 12, none⟩ = some (.bool false) := I1.at_ 12 _ rfl
  have z0 := I1.fz 0
  have z12 := I1.fz 12
  have e10 := c10
  have e1 := c1
  have e0 := c0
  rw [hW1] at e10 e1 e0
  clear F1 R1 I1 h ho1 F1x hW1 hsz hLs hstr hRS
  go_enter Tryd.func25, Tryd.ntmps25
  go_wp2_with fail
  rw [← HW1.out]
  clear e10 e1 e0
  go_loopw [5] (fun i wr => ∃ j : Nat, j ≤ str.size ∧ i = .int .i64 (j : Int) ∧ Hid (10 ∉ RS.take j) ∧ W1 = wr) (fun i _ => str.size - (intOf i).toNat)
  case atStart => exact ⟨0, by omega, rfl, Lib.hid (by simp), rfl⟩
  case round =>
    obtain ⟨j, hj, rfl, HN, rfl⟩ := hrel
    by_cases hlt : j < str.size
    · have hi1 : (j : Int) < (str.size : Int) := by omega
      obtain ⟨c, hc⟩ : ∃ c, RS[j]? = some c := ⟨_, List.getElem?_eq_getElem (by rw [← HSZ.out]; exact hlt)⟩
      have ix : ∀ w : World, (Instr.index 9 (.string str) (.int .i64 (j : Int))).run Tryd.prog w = .ok (.int .u8 ((c.toNat : Nat) : Int)) w := fun w => str_at (s := str) (q := j) (c := c) (by rw [HSTR.out]; exact hc) w
      obtain ⟨xx, hxx⟩ : ∃ xx : Int, xx = ((c.toNat : Nat) : Int) := ⟨_, rfl⟩
      rw [← hxx] at ix
      have HXX := Lib.hid hxx
      have HC := Lib.hid hc
      clear hxx hc
      by_cases hx10 : xx = 10
      · have HQ : Hid (RS = RS.take j ++ 10 :: RS.drop (j + 1) ∧ (RS.take j).length = j) := Lib.hid (by
          have := split_n HC.out
          rw [show c = 10 from UInt8.toNat_inj.1 (show c.toNat = 10 by have := HXX.out; omega)] at this
          exact this)
        have jne : ¬ ((j : Int) = (str.size : Int)) := by omega
        have jne2 : ¬ (j = str.size) := by omega
        have sl := str_lo str (j + 1) (by omega)
        rw [HSTR.out] at sl
        rw [show ((j + 1 : Nat) : Int) = (j : Int) + 1 from rfl] at sl
        by_cases hbig : 2048 < j
        · have tb : decide ((2048 : Int) < (j : Int)) = true := by simp; omega
          obtain ⟨F1, I1, R1⟩ := H.out
          obtain ⟨I5, F5⟩ := I1.set (b' := pz 4) (R' := RS) hx 12 (.bool true) (by omega) rfl rfl
          obtain ⟨I6, F6⟩ := I5.set (b' := pz 4) (R' := []) hx 0 (.string ⟨#[]⟩) (by omega) rfl rfl
          have O6 := OutR.say I6 (Below.refl _ _) 15 []
          obtain ⟨E, hE⟩ : ∃ E, E = (ans 15 []).cs (.slice none 0 0) := ⟨_, rfl⟩
          have HE : Hid (E = [.int .i64 0, .slice none 0 0, .int .i64 0, .int .i64 0, .int .i64 0, .int .i64 0, .int .u64 0, .bool false, .string ⟨#[]⟩, .int .i64 15, .slice none 0 0, .bool false, .int .u64 0, .string ⟨#[]⟩, .int .i64 0, .int .i64 0, .int .i64 0, .int .i64 0]) := Lib.hid (by rw [hE]; rfl)
          rw [← hE] at O6
          obtain ⟨hl, ho, ht, hr, hq⟩ := chain_r hx (F1.trans (F5.trans F6)) ((R1.fr F5 (tx8 hx)).fr F6 (tx8 hx)) (Nat.le_refl _) O6
          have HL := Lib.hid hl
          have H1 := Lib.hid ho
          have HT := Lib.hid ht
          have HR := Lib.hid hr
          have HO := Lib.hid hq
          clear hl ho ht hr hq
          clear hE O6 F1 I1 R1 I5 F5 I6 F6
          go_wp2_with ((with_reducible show wpList _ _ _ (Oper.mk none (Op.store 44 (.tmp 2) _) _ _ _ _ :: _) _ _); refine wpList_store_mid (by rfl) 44 (.tmp 2) (.tmp 112) (by rfl) w.heap.size 0 E.toArray (by rfl) (by rw [HE.out]; rfl) HT.out (by rw [List.size_toArray, HL.out]; kernel_rfl) (all_oneCell_toArray H1.out) ?_; rw [show E.toArray.toList = E from rfl])
          exact bodyPost_ret (v := .tuple #[.agg E.toArray, .bool false]) (res2r Tryd.results25 (by rfl) (by rfl) HR.out HL.out) rfl ⟨E, pz 4, [], ans 15 [], false, rfl, HO.out, ⟨bs_pz 4 (.inr (.inr rfl)), .inr ⟨rfl, (congrArg (feed (pz 0)) HQ.out.1).trans (feed_pl_long (RS.take j) (10 :: RS.drop (j + 1)) [] HN.out (by rw [HQ.out.2]; simp; omega) (by simp))⟩⟩⟩
        · have tb : decide ((2048 : Int) < (j : Int)) = false := by simp; omega
          have sl1 := str_hi str j (by omega)
          rw [HSTR.out] at sl1
          obtain ⟨F1, I1, R1⟩ := H.out
          obtain ⟨I7, F7⟩ := I1.set (b' := pz 0) (R' := RS.drop (j + 1)) hx 0 (.string (S (RS.drop (j + 1)))) (by omega) rfl rfl
          have HI7 := Lib.hid I7
          have HF7 := Lib.hid (And.intro (F1.trans F7) (R1.fr F7 (tx8 hx)))
          have HFE : Hid (feed (pz 0) RS = thn (obey (trim (RS.take j))).2 (feed (obey (trim (RS.take j))).1 (RS.drop (j + 1)))) := Lib.hid ((congrArg (feed (pz 0)) HQ.out.1).trans (feed_pl_end (RS.take j) (RS.drop (j + 1)) [] HN.out (by rw [HQ.out.2]; simp; omega)))
          clear F1 I1 R1 I7 F7
          by_cases hj0 : j = 0
          · subst hj0
            have HTL : Hid (([] : B).length ≤ 100000) := Lib.hid (by simp)
            have HFD : Hid (feed (pz 0) RS = thn (obey []).2 (feed (obey []).1 (RS.drop (0 + 1)))) := Lib.hid HFE.out
            have sl5 := str_lo str 1 (by omega)
            rw [HSTR.out] at sl5
            rw [show ((1 : Nat) : Int) = 1 from rfl] at sl5
            have HI8 : Hid (IsRf (W1.setCell ⟨P, 0, none⟩ (.string (S (RS.drop 1)))) o1 x P (pz 0) (RS.drop 1) ka kn kc) := HI7
            have HF8 : Hid (Fr (TX x) o o1 w (W1.setCell ⟨P, 0, none⟩ (.string (S (RS.drop 1)))) ∧ Res (W1.setCell ⟨P, 0, none⟩ (.string (S (RS.drop 1)))) o1 w.heap.size) := HF7
            clear HI7 HF7 sl sl1
            have HI7 := HI8
            have HF7 := HF8
            clear HI8 HF8
            obtain ⟨T1, hT1⟩ : ∃ T1, T1 = RS.drop 1 := ⟨_, rfl⟩
            rw [← hT1] at HI7 HF7 sl5
            have HT1 := Lib.hid hT1
            clear hT1
            rw [show ((0 : Nat) : Int) = 0 from rfl] at tb ix ⊢
            go_wp2_with fail
            rw [show ByteArray.empty = S ([] : B) from rfl]
            refine (lineR_any hx (S (([] : B))) (by rw [S_size]; have := HTL.out; omega) _ HI7.out).mono ?_
            rintro e w8 ⟨E, rfl, O8⟩
            rw [show L (S (([] : B))) = ([] : B) from rfl] at O8
            obtain ⟨F7, R7⟩ := HF7.out
            obtain ⟨hl, ho, ht, hr, hq⟩ := chain_r hx F7 R7 (Nat.le_refl _) O8
            have HL := Lib.hid hl
            have H1 := Lib.hid ho
            have HT := Lib.hid ht
            have HR := Lib.hid hr
            have HO := Lib.hid hq
            clear hl ho ht hr hq
            clear F7 R7 O8
            go_wp2_with ((with_reducible show wpList _ _ _ (Oper.mk none (Op.store 44 (.tmp 2) _) _ _ _ _ :: _) _ _); refine wpList_store_mid (by rfl) 44 (.tmp 2) (.tmp 152) (by rfl) w.heap.size 0 E.toArray (by rfl) (by rfl) HT.out (by rw [List.size_toArray, HL.out]; kernel_rfl) (all_oneCell_toArray H1.out) ?_; rw [show E.toArray.toList = E from rfl])
            exact bodyPost_ret (v := .tuple #[.agg E.toArray, .bool true]) (res2r Tryd.results25 (by rfl) (by rfl) HR.out HL.out) rfl ⟨E, (obey (([] : B))).1, lft (obey (([] : B))).1 (T1), (obey (([] : B))).2, true, rfl, HO.out, ⟨bs_obey _, .inl ⟨rfl, by rw [← feed_lft]; rw [HT1.out]; exact HFD.out, by unfold lft; rw [HT1.out]; have := HSZ.out; have : st1 (obey (([] : B))).1 ≤ 1 := (by unfold st1; split <;> omega); show _ < 2 * _ + 0; split <;> simp <;> omega, fun h => by unfold lft; rw [HT1.out]; rw [if_pos h]⟩⟩⟩
          · have j0 : decide ((0 : Int) < (j : Int)) = true := by simp; omega
            have j0' : 0 < j := by omega
            obtain ⟨l0, c', hl0⟩ : ∃ l0 c', RS.take j = l0 ++ [c'] := by
              rcases List.eq_nil_or_concat (RS.take j) with e | e
              · have := HQ.out.2
                rw [e] at this
                simp at this
                omega
              · simpa [List.concat_eq_append] using e
            have hl0l : l0.length = j - 1 := by have := congrArg List.length hl0; rw [HQ.out.2] at this; simp at this; omega
            have wj : (j : Int) - 1 = ((j - 1 : Nat) : Int) := by omega
            have ix2 : ∀ w : World, (Instr.index 9 (.string (S (RS.take j))) (.int .i64 ((j : Int) - 1))).run Tryd.prog w = .ok (.int .u8 ((c'.toNat : Nat) : Int)) w := fun w => by
              rw [wj]
              exact str_at (s := S (RS.take j)) (q := j - 1) (c := c') (by rw [L_S, hl0, List.getElem?_append_right (by omega), hl0l]; simp) w
            have sl4 : ∀ w : World, (Instr.sliceAt 9 (.string (S (RS.take j))) none (some (.int .i64 ((j : Int) - 1))) none).run Tryd.prog w = .ok (.string (S l0)) w := fun w => by
              rw [wj]
              have := str_hi (S (RS.take j)) (j - 1) (by rw [S_size, HQ.out.2]; omega) w
              rw [L_S, hl0, List.take_append_of_le_length (by omega), List.take_of_length_le (by omega)] at this
              rw [hl0]
              exact this
            obtain ⟨yy, hyy⟩ : ∃ yy : Int, yy = ((c'.toNat : Nat) : Int) := ⟨_, rfl⟩
            rw [← hyy] at ix2
            have HYY := Lib.hid hyy
            have HL0 := Lib.hid hl0
            have HLL := Lib.hid hl0l
            clear hyy hl0 hl0l wj
            by_cases h13 : yy = 13
            · have HTL : Hid (l0.length ≤ 100000) := Lib.hid (by have := HLL.out; omega)
              have HFD : Hid (feed (pz 0) RS = thn (obey l0).2 (feed (obey l0).1 (RS.drop (j + 1)))) := Lib.hid (by
                have := HFE.out
                rw [HL0.out, trim_app, if_pos (UInt8.toNat_inj.1 (show c'.toNat = 13 by have := HYY.out; omega))] at this
                exact this)
              go_wp2_with fail
              refine (lineR_any hx (S (l0)) (by rw [S_size]; have := HTL.out; omega) _ HI7.out).mono ?_
              rintro e w8 ⟨E, rfl, O8⟩
              rw [show L (S (l0)) = l0 from rfl] at O8
              obtain ⟨F7, R7⟩ := HF7.out
              obtain ⟨hl, ho, ht, hr, hq⟩ := chain_r hx F7 R7 (Nat.le_refl _) O8
              have HL := Lib.hid hl
              have H1 := Lib.hid ho
              have HT := Lib.hid ht
              have HR := Lib.hid hr
              have HO := Lib.hid hq
              clear hl ho ht hr hq
              clear F7 R7 O8
              go_wp2_with ((with_reducible show wpList _ _ _ (Oper.mk none (Op.store 44 (.tmp 2) _) _ _ _ _ :: _) _ _); refine wpList_store_mid (by rfl) 44 (.tmp 2) (.tmp 152) (by rfl) w.heap.size 0 E.toArray (by rfl) (by rfl) HT.out (by rw [List.size_toArray, HL.out]; kernel_rfl) (all_oneCell_toArray H1.out) ?_; rw [show E.toArray.toList = E from rfl])
              exact bodyPost_ret (v := .tuple #[.agg E.toArray, .bool true]) (res2r Tryd.results25 (by rfl) (by rfl) HR.out HL.out) rfl ⟨E, (obey (l0)).1, lft (obey (l0)).1 (RS.drop (j + 1)), (obey (l0)).2, true, rfl, HO.out, ⟨bs_obey _, .inl ⟨rfl, by rw [← feed_lft]; exact HFD.out, by unfold lft; have := HSZ.out; have : st1 (obey (l0)).1 ≤ 1 := (by unfold st1; split <;> omega); show _ < 2 * _ + 0; split <;> simp <;> omega, fun h => by unfold lft; rw [if_pos h]⟩⟩⟩
            · have HTL : Hid ((RS.take j).length ≤ 100000) := Lib.hid (by rw [HQ.out.2]; omega)
              have HFD : Hid (feed (pz 0) RS = thn (obey (RS.take j)).2 (feed (obey (RS.take j)).1 (RS.drop (j + 1)))) := Lib.hid (by
                have := HFE.out
                rw [HL0.out, trim_app, if_neg (fun e => h13 (by rw [HYY.out, e]; rfl))] at this
                rw [HL0.out]
                exact this)
              go_wp2_with fail
              refine (lineR_any hx (S (RS.take j)) (by rw [S_size]; have := HTL.out; omega) _ HI7.out).mono ?_
              rintro e w8 ⟨E, rfl, O8⟩
              rw [show L (S (RS.take j)) = RS.take j from rfl] at O8
              obtain ⟨F7, R7⟩ := HF7.out
              obtain ⟨hl, ho, ht, hr, hq⟩ := chain_r hx F7 R7 (Nat.le_refl _) O8
              have HL := Lib.hid hl
              have H1 := Lib.hid ho
              have HT := Lib.hid ht
              have HR := Lib.hid hr
              have HO := Lib.hid hq
              clear hl ho ht hr hq
              clear F7 R7 O8
              go_wp2_with ((with_reducible show wpList _ _ _ (Oper.mk none (Op.store 44 (.tmp 2) _) _ _ _ _ :: _) _ _); refine wpList_store_mid (by rfl) 44 (.tmp 2) (.tmp 152) (by rfl) w.heap.size 0 E.toArray (by rfl) (by rfl) HT.out (by rw [List.size_toArray, HL.out]; kernel_rfl) (all_oneCell_toArray H1.out) ?_; rw [show E.toArray.toList = E from rfl])
              exact bodyPost_ret (v := .tuple #[.agg E.toArray, .bool true]) (res2r Tryd.results25 (by rfl) (by rfl) HR.out HL.out) rfl ⟨E, (obey (RS.take j)).1, lft (obey (RS.take j)).1 (RS.drop (j + 1)), (obey (RS.take j)).2, true, rfl, HO.out, ⟨bs_obey _, .inl ⟨rfl, by rw [← feed_lft]; exact HFD.out, by unfold lft; have := HSZ.out; have : st1 (obey (RS.take j)).1 ≤ 1 := (by unfold st1; split <;> omega); show _ < 2 * _ + 0; split <;> simp <;> omega, fun h => by unfold lft; rw [if_pos h]⟩⟩⟩
      · go_wp2_with fail
        refine ⟨⟨j + 1, by omega, by go_num, Lib.hid (fun hm => ?_), trivial⟩, by simp [intOf]; omega⟩
        rw [List.take_add_one, HC.out] at hm
        rcases List.mem_append.1 hm with hm | hm
        · exact HN.out hm
        · simp at hm
          apply hx10
          rw [HXX.out, ← hm]; rfl
    · have hjm : j = str.size := by omega
      have hi1 : decide ((j : Int) < (str.size : Int)) = false := by simp; omega
      have HNA : Hid (10 ∉ RS) := Lib.hid (by have := HN.out; rw [hjm, HSZ.out, List.take_length] at this; exact this)
      clear HN hlt hj
      subst hjm
      by_cases hbig : 2048 < str.size
      · have tb : decide ((2048 : Int) < (str.size : Int)) = true := by simp; omega
        obtain ⟨F1, I1, R1⟩ := H.out
        obtain ⟨I5, F5⟩ := I1.set (b' := pz 4) (R' := RS) hx 12 (.bool true) (by omega) rfl rfl
        obtain ⟨I6, F6⟩ := I5.set (b' := pz 4) (R' := []) hx 0 (.string ⟨#[]⟩) (by omega) rfl rfl
        have O6 := OutR.say I6 (Below.refl _ _) 15 []
        obtain ⟨E, hE⟩ : ∃ E, E = (ans 15 []).cs (.slice none 0 0) := ⟨_, rfl⟩
        have HE : Hid (E = [.int .i64 0, .slice none 0 0, .int .i64 0, .int .i64 0, .int .i64 0, .int .i64 0, .int .u64 0, .bool false, .string ⟨#[]⟩, .int .i64 15, .slice none 0 0, .bool false, .int .u64 0, .string ⟨#[]⟩, .int .i64 0, .int .i64 0, .int .i64 0, .int .i64 0]) := Lib.hid (by rw [hE]; rfl)
        rw [← hE] at O6
        obtain ⟨hl, ho, ht, hr, hq⟩ := chain_r hx (F1.trans (F5.trans F6)) ((R1.fr F5 (tx8 hx)).fr F6 (tx8 hx)) (Nat.le_refl _) O6
        have HL := Lib.hid hl
        have H1 := Lib.hid ho
        have HT := Lib.hid ht
        have HR := Lib.hid hr
        have HO := Lib.hid hq
        clear hl ho ht hr hq
        clear hE O6 F1 I1 R1 I5 F5 I6 F6
        go_wp2_with ((with_reducible show wpList _ _ _ (Oper.mk none (Op.store 44 (.tmp 2) _) _ _ _ _ :: _) _ _); refine wpList_store_mid (by rfl) 44 (.tmp 2) (.tmp 112) (by rfl) w.heap.size 0 E.toArray (by rfl) (by rw [HE.out]; rfl) HT.out (by rw [List.size_toArray, HL.out]; kernel_rfl) (all_oneCell_toArray H1.out) ?_; rw [show E.toArray.toList = E from rfl])
        exact bodyPost_ret (v := .tuple #[.agg E.toArray, .bool false]) (res2r Tryd.results25 (by rfl) (by rfl) HR.out HL.out) rfl ⟨E, pz 4, [], ans 15 [], false, rfl, HO.out, ⟨bs_pz 4 (.inr (.inr rfl)), .inr ⟨rfl, by have := feed_pl_long RS [] [] HNA.out (by have := HSZ.out; simp; omega) (by simp); rw [List.append_nil] at this; exact this⟩⟩⟩
      · have tb : decide ((2048 : Int) < (str.size : Int)) = false := by simp; omega
        obtain ⟨F1, I1, R1⟩ := H.out
        have O6 := OutR.zero I1
        obtain ⟨E, hE⟩ : ∃ E, E = (Ev.none.cs (.slice none 0 0)) := ⟨_, rfl⟩
        have HE : Hid (E = [.int .i64 0, .slice none 0 0, .int .i64 0, .int .i64 0, .int .i64 0, .int .i64 0, .int .u64 0, .bool false, .string ⟨#[]⟩, .int .i64 0, .slice none 0 0, .bool false, .int .u64 0, .string ⟨#[]⟩, .int .i64 0, .int .i64 0, .int .i64 0, .int .i64 0]) := Lib.hid (by rw [hE]; rfl)
        rw [← hE] at O6
        obtain ⟨hl, ho, ht, hr, hq⟩ := chain_r hx F1 R1 (Nat.le_refl _) O6
        have HL := Lib.hid hl
        have H1 := Lib.hid ho
        have HT := Lib.hid ht
        have HR := Lib.hid hr
        have HO := Lib.hid hq
        clear hl ho ht hr hq
        clear hE O6 F1 I1 R1
        go_wp2_with ((with_reducible show wpList _ _ _ (Oper.mk none (Op.store 44 (.tmp 2) _) _ _ _ _ :: _) _ _); refine wpList_store_mid (by rfl) 44 (.tmp 2) (.tmp 120) (by rfl) w.heap.size 0 E.toArray (by rfl) (by rw [HE.out]; rfl) HT.out (by rw [List.size_toArray, HL.out]; kernel_rfl) (all_oneCell_toArray H1.out) ?_; rw [show E.toArray.toList = E from rfl])
        exact bodyPost_ret (v := .tuple #[.agg E.toArray, .bool false]) (res2r Tryd.results25 (by rfl) (by rfl) HR.out HL.out) rfl ⟨E, pz 0, RS, Ev.none, false, rfl, HO.out, ⟨bs_pz 0 (.inl rfl), .inr ⟨rfl, by have := feed_pl RS [] HNA.out (by have := HSZ.out; simp; omega); rw [List.nil_append] at this; exact this⟩⟩⟩
end Go.Proofs.YtedbklipbfbmoaaDoor
