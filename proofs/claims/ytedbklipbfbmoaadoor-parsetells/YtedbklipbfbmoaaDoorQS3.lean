/-
  step of the reference, past a line.
-/
import Derived.Test.YtedbklipbfbmoaaDoorQSt
namespace Go.Proofs.YtedbklipbfbmoaaDoor
open Go.RowKit

set_option maxRecDepth 100000 in
set_option maxHeartbeats 2000000 in
theorem stepR_3 {o : Nat → Nat × Nat} {x P : Nat} {RS : B} {ka : Option Addr} {kn kc : Nat} (hx : x < 8) (hRS : RS.length ≤ 1000000) (w : World) (h : IsRf w o x P (pz 3) RS ka kn kc) :
    Calls Tryd.prog 25 #[.pointer (some ⟨P, 0, none⟩)] w fun e w' => SOut w o x P (pz 3) RS e w' := by
  obtain ⟨W1, hW1⟩ : ∃ W1, W1 = w.alloc (.cells #[.int .i64 0, .slice none 0 0, .int .i64 0, .int .i64 0, .int .i64 0, .int .i64 0, .int .u64 0, .bool false, .string ⟨#[]⟩, .int .i64 0, .slice none 0 0, .bool false, .int .u64 0, .string ⟨#[]⟩, .int .i64 0, .int .i64 0, .int .i64 0, .int .i64 0] 44) := ⟨_, rfl⟩
  obtain ⟨o1, ho1⟩ : ∃ o1, o1 = lab o w.heap.size (8, 8) := ⟨_, rfl⟩
  have F1 : Fr (fun _ => False) o o1 w W1 := by rw [hW1, ho1]; exact Fr.new _ _ _ _ _
  have R1 : Res W1 o1 w.heap.size := by rw [hW1, ho1]; exact Res.new44 _ _
  have I1 := h.fr F1 id id
  have F1x : Fr (TX x) o o1 w W1 := F1.mono (fun _ h => h.elim)
  have H := Lib.hid (And.intro F1x (And.intro I1 R1))
  have HW1 := Lib.hid hW1
  obtain ⟨str, hstr⟩ : ∃ str, str = S RS := ⟨_, rfl⟩
  have hsz : str.size = RS.length := by rw [hstr, S_size]
  have hLs : L str = RS := by rw [hstr]; rfl
  have HSTR := Lib.hid hLs
  have HSZ := Lib.hid hsz
  have HST2 := Lib.hid hstr
  have sb : str.size ≤ 1000000 := by omega
  have c10 : W1.cell? ⟨P, 10, none⟩ = some (.int .i64 0) := I1.at_ 10 _ rfl
  have c1 : W1.cell? ⟨P, 1, none⟩ = some (.int .i64 0) := I1.at_ 1 _ rfl
  have c0 : W1.cell? ⟨P, 0, none⟩ = some (.string str) := by rw [hstr]; exact I1.at_ 0 _ rfl
  have c11 : W1.cell? ⟨P, 11, none⟩ = some (.bool true) := I1.at_ 11 _ rfl
  have z0 := I1.fz 0
  have z11 := I1.fz 11
  obtain ⟨I5, F5⟩ := I1.set (b' := pz 3) (R' := []) hx 0 (.string ⟨#[]⟩) (by omega) rfl rfl
  have H5 := Lib.hid (And.intro (F1x.trans F5) (And.intro I5 (R1.fr F5 (tx8 hx))))
  clear I5 F5
  have e10 := c10
  have e1 := c1
  have e0 := c0
  rw [hW1] at e10 e1 e0
  clear F1 R1 I1 h ho1 F1x hW1 hsz hLs hstr hRS
  go_enter Tryd.func25, Tryd.ntmps25
  go_wp2_with fail
  rw [← HW1.out]
  clear e10 e1 e0
  go_loopw [5] (fun i wr => ∃ j : Nat, j ≤ str.size ∧ i = .int .i64 (j : Int) ∧ Hid (10 ∉ RS.take j) ∧ W1 = wr) (fun i _ => str.size - (intOf i).toNat)
  case atStart => exact ⟨0, by omega, rfl, Lib.hid (by simp), rfl⟩
  case round =>
    obtain ⟨j, hj, rfl, HN, rfl⟩ := hrel
    by_cases hlt : j < str.size
    · have hi1 : (j : Int) < (str.size : Int) := by omega
      obtain ⟨c, hc⟩ : ∃ c, RS[j]? = some c := ⟨_, List.getElem?_eq_getElem (by rw [← HSZ.out]; exact hlt)⟩
      have ix : ∀ w : World, (Instr.index 9 (.string str) (.int .i64 (j : Int))).run Tryd.prog w = .ok (.int .u8 ((c.toNat : Nat) : Int)) w := fun w => str_at (s := str) (q := j) (c := c) (by rw [HSTR.out]; exact hc) w
      obtain ⟨xx, hxx⟩ : ∃ xx : Int, xx = ((c.toNat : Nat) : Int) := ⟨_, rfl⟩
      rw [← hxx] at ix
      have HXX := Lib.hid hxx
      have HC := Lib.hid hc
      clear hxx hc
      by_cases hx10 : xx = 10
      · have HQ : Hid (RS = RS.take j ++ 10 :: RS.drop (j + 1) ∧ (RS.take j).length = j) := Lib.hid (by
          have := split_n HC.out
          rw [show c = 10 from UInt8.toNat_inj.1 (show c.toNat = 10 by have := HXX.out; omega)] at this
          exact this)
        have jne : ¬ ((j : Int) = (str.size : Int)) := by omega
        have jne2 : ¬ (j = str.size) := by omega
        have sl := str_lo str (j + 1) (by omega)
        rw [HSTR.out] at sl
        rw [show ((j + 1 : Nat) : Int) = (j : Int) + 1 from rfl] at sl
        have wr1 : IntKind.i64.wrap ((j : Int) + 1) = (j : Int) + 1 := by rw [IntKind.wrap_i64]; omega
        go_wp2_with fail
        go_region_law (fail)
        obtain ⟨F1, I1, R1⟩ := H.out
        obtain ⟨I6, F6⟩ := I1.set (b' := pz 0) (R' := RS) hx 11 (.bool false) (by omega) rfl rfl
        obtain ⟨I7, F7⟩ := I6.set (b' := pz 0) (R' := RS.drop (j + 1)) hx 0 (.string (S (RS.drop (j + 1)))) (by omega) rfl rfl
        obtain ⟨W7, hW7⟩ : ∃ W7, W7 = ((W1.setCell ⟨P, 11, none⟩ (.bool false)).setCell ⟨P, 0, none⟩ (.string (S (RS.drop (j + 1))))).drew := ⟨_, rfl⟩
        have F8 : Fr (fun _ => False) o1 o1 ((W1.setCell ⟨P, 11, none⟩ (.bool false)).setCell ⟨P, 0, none⟩ (.string (S (RS.drop (j + 1))))) W7 := by rw [hW7]; exact Fr.drew1 _ _ _
        have I8 := I7.fr F8 id id
        have R8 := ((R1.fr F6 (tx8 hx)).fr F7 (tx8 hx)).fr F8 id
        have G8 : Fr (TX x) o o1 w W7 := ((F1.trans F6).trans F7).trans (F8.mono (fun _ h => h.elim))
        rw [← hW7]
        have O6 := OutR.zero I8
        obtain ⟨E, hE⟩ : ∃ E, E = (Ev.none.cs (.slice none 0 0)) := ⟨_, rfl⟩
        have HE : Hid (E = [.int .i64 0, .slice none 0 0, .int .i64 0, .int .i64 0, .int .i64 0, .int .i64 0, .int .u64 0, .bool false, .string ⟨#[]⟩, .int .i64 0, .slice none 0 0, .bool false, .int .u64 0, .string ⟨#[]⟩, .int .i64 0, .int .i64 0, .int .i64 0, .int .i64 0]) := Lib.hid (by rw [hE]; rfl)
        rw [← hE] at O6
        obtain ⟨hl, ho, ht, hr, hq⟩ := chain_r hx G8 R8 (Nat.le_refl _) O6
        have HL := Lib.hid hl
        have H1 := Lib.hid ho
        have HT := Lib.hid ht
        have HR := Lib.hid hr
        have HO := Lib.hid hq
        clear hl ho ht hr hq
        clear hE O6 F1 I1 R1 I6 F6 I7 F7 F8 I8 R8 G8 hW7 c0 c1 c10 c11 z0 z11 ix sl
        go_wp2_with ((with_reducible show wpList _ _ _ (Oper.mk none (Op.store 44 (.tmp 2) _) _ _ _ _ :: _) _ _); refine wpList_store_mid (by rfl) 44 (.tmp 2) (.tmp 102) (by rfl) w.heap.size 0 E.toArray (by rfl) (by rw [HE.out]; rfl) HT.out (by rw [List.size_toArray, HL.out]; kernel_rfl) (all_oneCell_toArray H1.out) ?_; rw [show E.toArray.toList = E from rfl])
        exact bodyPost_ret (v := .tuple #[.agg E.toArray, .bool true]) (res2r Tryd.results25 (by rfl) (by rfl) HR.out HL.out) rfl ⟨E, pz 0, RS.drop (j + 1), Ev.none, true, rfl, HO.out, ⟨bs_pz 0 (.inl rfl), .inl ⟨rfl, (congrArg (feed (pz 3)) HQ.out.1).trans (feed_3_end _ _ HN.out), by rw [List.length_drop]; show 2 * _ + 0 < 2 * _ + 0; have := HSZ.out; omega, fun h => absurd h (by decide)⟩⟩⟩
      · go_wp2_with fail
        refine ⟨⟨j + 1, by omega, by go_num, Lib.hid (fun hm => ?_), trivial⟩, by simp [intOf]; omega⟩
        rw [List.take_add_one, HC.out] at hm
        rcases List.mem_append.1 hm with hm | hm
        · exact HN.out hm
        · simp at hm
          apply hx10
          rw [HXX.out, ← hm]; rfl
    · have hjm : j = str.size := by omega
      have hi1 : decide ((j : Int) < (str.size : Int)) = false := by simp; omega
      have HNA : Hid (10 ∉ RS) := Lib.hid (by have := HN.out; rw [hjm, HSZ.out, List.take_length] at this; exact this)
      clear HN hlt hj
      subst hjm
      obtain ⟨F5, I5, R5⟩ := H5.out
      have O6 := OutR.zero I5
      obtain ⟨E, hE⟩ : ∃ E, E = (Ev.none.cs (.slice none 0 0)) := ⟨_, rfl⟩
      have HE : Hid (E = [.int .i64 0, .slice none 0 0, .int .i64 0, .int .i64 0, .int .i64 0, .int .i64 0, .int .u64 0, .bool false, .string ⟨#[]⟩, .int .i64 0, .slice none 0 0, .bool false, .int .u64 0, .string ⟨#[]⟩, .int .i64 0, .int .i64 0, .int .i64 0, .int .i64 0]) := Lib.hid (by rw [hE]; rfl)
      rw [← hE] at O6
      obtain ⟨hl, ho, ht, hr, hq⟩ := chain_r hx F5 R5 (Nat.le_refl _) O6
      have HL := Lib.hid hl
      have H1 := Lib.hid ho
      have HT := Lib.hid ht
      have HR := Lib.hid hr
      have HO := Lib.hid hq
      clear hl ho ht hr hq
      clear hE O6 F5 I5 R5
      go_wp2_with ((with_reducible show wpList _ _ _ (Oper.mk none (Op.store 44 (.tmp 2) _) _ _ _ _ :: _) _ _); refine wpList_store_mid (by rfl) 44 (.tmp 2) (.tmp 88) (by rfl) w.heap.size 0 E.toArray (by rfl) (by rw [HE.out]; rfl) HT.out (by rw [List.size_toArray, HL.out]; kernel_rfl) (all_oneCell_toArray H1.out) ?_; rw [show E.toArray.toList = E from rfl])
      exact bodyPost_ret (v := .tuple #[.agg E.toArray, .bool false]) (res2r Tryd.results25 (by rfl) (by rfl) HR.out HL.out) rfl ⟨E, pz 3, [], Ev.none, false, rfl, HO.out, ⟨bs_pz 3 (.inr (.inl rfl)), .inr ⟨rfl, by rw [feed_3 RS HNA.out]; rfl⟩⟩⟩
end Go.Proofs.YtedbklipbfbmoaaDoor
