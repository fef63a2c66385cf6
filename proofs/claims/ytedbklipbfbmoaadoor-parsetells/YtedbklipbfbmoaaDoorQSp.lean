/-
  step of the reference, past bytes.
-/
import Derived.Test.YtedbklipbfbmoaaDoorQSl
namespace Go.Proofs.YtedbklipbfbmoaaDoor
open Go.RowKit

set_option maxRecDepth 100000 in
set_option maxHeartbeats 20000000 in
theorem stepR_pp {o : Nat → Nat × Nat} {x P k : Nat} {RS : B} {ka : Option Addr} {kn kc : Nat} (hx : x < 8) (hRS : RS.length ≤ 1000000) (hk1 : 1 ≤ k) (hk2 : k ≤ 2147483649) (w : World) (h : IsRf w o x P (pp k) RS ka kn kc) :
    Calls Tryd.prog 25 #[.pointer (some ⟨P, 0, none⟩)] w fun e w' => SOut w o x P (pp k) RS e w' := by
  obtain ⟨W1, hW1⟩ : ∃ W1, W1 = w.alloc (.cells #[.int .i64 0, .slice none 0 0, .int .i64 0, .int .i64 0, .int .i64 0, .int .i64 0, .int .u64 0, .bool false, .string ⟨#[]⟩, .int .i64 0, .slice none 0 0, .bool false, .int .u64 0, .string ⟨#[]⟩, .int .i64 0, .int .i64 0, .int .i64 0, .int .i64 0] 44) := ⟨_, rfl⟩
  obtain ⟨o1, ho1⟩ : ∃ o1, o1 = lab o w.heap.size (8, 8) := ⟨_, rfl⟩
  have F1 : Fr (fun _ => False) o o1 w W1 := by rw [hW1, ho1]; exact Fr.new _ _ _ _ _
  have R1 : Res W1 o1 w.heap.size := by rw [hW1, ho1]; exact Res.new44 _ _
  have I1 := h.fr F1 id id
  have F1x : Fr (TX x) o o1 w W1 := F1.mono (fun _ h => h.elim)
  have H := Lib.hid (And.intro F1x (And.intro I1 R1))
  have HW1 := Lib.hid hW1
  obtain ⟨str, hstr⟩ : ∃ str, str = S RS := ⟨_, rfl⟩
  have hsz : str.size = RS.length := by rw [hstr, S_size]
  have hLs : L str = RS := by rw [hstr]; rfl
  have HSTR := Lib.hid hLs
  have HSZ := Lib.hid hsz
  have sb : str.size ≤ 1000000 := by omega
  have c10 : W1.cell? ⟨P, 10, none⟩ = some (.int .i64 (k : Int)) := I1.at_ 10 _ rfl
  have c0 : W1.cell? ⟨P, 0, none⟩ = some (.string str) := by rw [hstr]; exact I1.at_ 0 _ rfl
  have e10 := c10
  rw [hW1] at e10
  have kp : (0 : Int) < (k : Int) := by omega
  obtain ⟨m, hm⟩ : ∃ m : Nat, min (k : Int) (str.size : Int) = (m : Int) := ⟨min k str.size, by omega⟩
  have hmk : m ≤ k := by omega
  have hms : m ≤ str.size := by omega
  have HM : Hid (m = min k RS.length) := Lib.hid (by omega)
  have z0 := I1.fz 0
  have z10 := I1.fz 10
  have sl := str_lo str m hms
  rw [hLs] at sl
  have w3 : IntKind.i64.wrap ((k : Int) - (m : Int)) = (k : Int) - (m : Int) := by rw [IntKind.wrap_i64]; omega
  obtain ⟨b', hb'⟩ : ∃ b', b' = if k - m = 0 then pz 0 else pp (k - m) := ⟨_, rfl⟩
  have hbs : Bs b' := by
    rw [hb']
    split
    · exact bs_pz 0 (.inl rfl)
    · exact ⟨rfl, okp_pp (by omega) (by omega)⟩
  have hbk : b'.rq.keys = [] := by rw [hb']; split <;> rfl
  obtain ⟨I5, F5⟩ := I1.set (b' := b') (R' := RS) hx 10 (.int .i64 ((k : Int) - (m : Int))) (by omega) hbk (by
    rw [hb']
    split
    · rename_i e
      rw [show (k : Int) - (m : Int) = 0 by omega]
      rfl
    · rw [show (k : Int) - (m : Int) = ((k - m : Nat) : Int) by omega]
      rfl)
  obtain ⟨I6, F6⟩ := I5.set (b' := b') (R' := RS.drop m) hx 0 (.string (S (RS.drop m))) (by omega) rfl rfl
  obtain ⟨W6, hW6⟩ : ∃ W6, W6 = ((W1.setCell ⟨P, 10, none⟩ (.int .i64 ((k : Int) - (m : Int)))).setCell ⟨P, 0, none⟩ (.string (S (RS.drop m)))).drew.drew := ⟨_, rfl⟩
  have F7 : Fr (fun _ => False) o1 o1 ((W1.setCell ⟨P, 10, none⟩ (.int .i64 ((k : Int) - (m : Int)))).setCell ⟨P, 0, none⟩ (.string (S (RS.drop m)))) W6.drew := by rw [hW6]; exact ((Fr.drew1 _ _ _).trans (Fr.drew1 _ _ _)).trans (Fr.drew1 _ _ _)
  have I7 := I6.fr F7 id id
  have R7 := ((R1.fr F5 (tx8 hx)).fr F6 (tx8 hx)).fr F7 id
  have G7 : Fr (TX x) o o1 w W6.drew := ((F1x.trans F5).trans F6).trans (F7.mono (fun _ h => h.elim))
  have hc0 : (pp k).rq = b'.rq := by rw [hb']; split <;> rfl
  have q10 : W6.cell? ⟨P, 10, none⟩ = some (.int .i64 ((k : Int) - (m : Int))) := by
    have := I7.at_ 10 _ rfl
    rw [show ((b'.past : Nat) : Int) = (k : Int) - (m : Int) by rw [hb']; split; (show ((0 : Nat) : Int) = _; omega); (show ((k - m : Nat) : Int) = _; omega)] at this
    exact this
  have O6 := OutR.zero I7
  obtain ⟨E, hE⟩ : ∃ E, E = (Ev.none.cs (.slice none 0 0)) := ⟨_, rfl⟩
  have HE : Hid (E = [.int .i64 0, .slice none 0 0, .int .i64 0, .int .i64 0, .int .i64 0, .int .i64 0, .int .u64 0, .bool false, .string ⟨#[]⟩, .int .i64 0, .slice none 0 0, .bool false, .int .u64 0, .string ⟨#[]⟩, .int .i64 0, .int .i64 0, .int .i64 0, .int .i64 0]) := Lib.hid (by rw [hE]; rfl)
  rw [← hE] at O6
  obtain ⟨hl, ho, ht, hr, hq⟩ := chain_r hx G7 R7 (Nat.le_refl _) O6
  have HL := Lib.hid hl
  have H1 := Lib.hid ho
  have HT := Lib.hid ht
  have HR := Lib.hid hr
  have HO := Lib.hid hq
  clear hl ho ht hr hq
  have s10 : (W6.drew.setCells w.heap.size 0 E).cell? ⟨P, 10, none⟩ = some (.int .i64 ((k : Int) - (m : Int))) := by
    obtain ⟨_, _, _, _, _, I9, _⟩ := HO.out
    have := I9.at_ 10 _ rfl
    rw [show ((b'.past : Nat) : Int) = (k : Int) - (m : Int) by rw [hb']; split; (show ((0 : Nat) : Int) = _; omega); (show ((k - m : Nat) : Int) = _; omega)] at this
    exact this
  obtain ⟨mo, hmo⟩ : ∃ mo, (((k : Int) - (m : Int)) == 0) = mo := ⟨_, rfl⟩
  have HREL : Hid (Rel (pp k) RS b' (RS.drop m) Ev.none mo) := Lib.hid (by
    refine ⟨hbs, ?_⟩
    have hmR := HM.out
    by_cases e0 : k - m = 0
    · have hm1 : mo = true := by rw [← hmo]; simp; omega
      rw [if_pos e0] at hb'
      refine .inl ⟨hm1, ?_, ?_, fun h => by rw [hb'] at h; exact absurd h (by decide)⟩
      · have := feed_pp hk1 RS
        rw [← hmR, if_pos e0] at this
        rw [hb', this]; rfl
      · rw [hb', List.length_drop]
        show 2 * _ + 0 < 2 * _ + 0
        omega
    · have hm1 : mo = false := by rw [← hmo]; simp; omega
      rw [if_neg e0] at hb'
      refine .inr ⟨hm1, ?_⟩
      have := feed_pp_few RS k (by omega)
      rw [this, hb', show RS.length = m by omega, show RS.drop m = [] from List.drop_eq_nil_of_le (by omega)]
      rfl)
  have HTZ : Hid (W6.drew.there w.heap.size 0 (([.int .i64 0, .slice none 0 0, .int .i64 0, .int .i64 0, .int .i64 0, .int .i64 0, .int .u64 0, .bool false, .string ⟨#[]⟩, .int .i64 0, .slice none 0 0, .bool false, .int .u64 0, .string ⟨#[]⟩, .int .i64 0, .int .i64 0, .int .i64 0, .int .i64 0] : List Value).toArray).size) := Lib.hid (by have := HT.out; rw [HE.out] at this; exact this)
  have HOZ : Hid ((([.int .i64 0, .slice none 0 0, .int .i64 0, .int .i64 0, .int .i64 0, .int .i64 0, .int .u64 0, .bool false, .string ⟨#[]⟩, .int .i64 0, .slice none 0 0, .bool false, .int .u64 0, .string ⟨#[]⟩, .int .i64 0, .int .i64 0, .int .i64 0, .int .i64 0] : List Value).toArray).all (·.oneCell') = true) := Lib.hid (by have := all_oneCell_toArray H1.out; rw [HE.out] at this; exact this)
  have HW6 := Lib.hid hW6
  clear F1 R1 I1 h ho1 F1x hW1 hsz hLs hstr hRS hb' hbs hbk I5 F5 I6 F6 hW6 F7 I7 R7 G7 hc0 O6 hE
  go_enter Tryd.func25, Tryd.ntmps25
  go_wp2_with fail
  rw [← HW1.out]
  clear e10
  go_region_law (fail)
  all_goals
    go_wp2_with fail
    go_region_law (fail)
    all_goals
      go_wp2_with fail
      rw [← HW6.out]
      refine wp_region_any (by kernel_rfl) ?_
      change wpAny _ _ _ _ _ _ _ (World.drew _)
      refine wpAny_take (i := 0) (v := .agg (([.int .i64 0, .slice none 0 0, .int .i64 0, .int .i64 0, .int .i64 0, .int .i64 0, .int .u64 0, .bool false, .string ⟨#[]⟩, .int .i64 0, .slice none 0 0, .bool false, .int .u64 0, .string ⟨#[]⟩, .int .i64 0, .int .i64 0, .int .i64 0, .int .i64 0] : List Value).toArray)) rfl (by kernel_rfl) (by kernel_rfl) (by kernel_rfl) (fun _ _ _ h => h) (Or.inl ⟨by rfl, by intro w; go_simp⟩) ?_
      refine wpAny_take (i := 1) (v := .pointer (some ⟨P, 0, none⟩)) rfl (by kernel_rfl) (by kernel_rfl) (by kernel_rfl) (fun _ _ _ h => h) (Or.inl ⟨by rfl, by intro w; go_simp⟩) ?_
      refine wpAny_take (i := 2) (v := .pointer (some ⟨P, 0, none⟩)) rfl (by kernel_rfl) (by kernel_rfl) (by kernel_rfl) (fun _ _ _ h => h) (Or.inl ⟨by rfl, by intro w; go_simp⟩) ?_
      refine wpAny_take (i := 3) (v := .pointer (some ⟨P, 10, none⟩)) rfl (by kernel_rfl) (by kernel_rfl) (by kernel_rfl) (fun _ _ _ h => h) (Or.inl ⟨by rfl, by intro w; go_simp⟩) ?_
      refine wpAny_ready (rs := [4, 6]) (by kernel_rfl) (by simp) ?_
      refine AllReady.cons rfl (fun K hK => ?_) (AllReady.cons (o := Oper.mk none (Op.store 44 (.tmp 2) (.tmp 40)) 0 "ref.go:309" _ none) rfl (fun K hK => ?_) AllReady.nil)
      · go_simp
        refine hK _ _ ?_
        clear hK K
        refine wpAny_take (i := 5) (v := .bool mo) rfl (by kernel_rfl) (by kernel_rfl) (by kernel_rfl) (fun _ _ _ h => h) (Or.inl ⟨by rfl, by intro w; go_simp⟩) ?_
        refine wpAny_ready (rs := [6]) (by kernel_rfl) (by simp) ?_
        refine AllReady.cons rfl (fun K hK => ?_) AllReady.nil
        refine step_store (cells := E.toArray) HT.out (all_oneCell_toArray H1.out) 44 (.tmp 2) (.tmp 40) (by with_reducible rfl) (by rfl) (by rfl) (by rfl) (by rw [HE.out]; rfl) (by rw [List.size_toArray, HL.out]; kernel_rfl) ?_
        refine hK _ _ ?_
        clear hK K
        refine wpAny_take (i := 7) (v := .bool mo) rfl (by kernel_rfl) (by kernel_rfl) (by kernel_rfl) (fun _ _ _ h => h) (Or.inl ⟨by rfl, by intro w; go_simp⟩) ?_
        refine wpAny_done (by kernel_rfl) ?_ _
        go_wp2_with fail
        exact bodyPost_ret (v := .tuple #[.agg E.toArray, .bool mo]) (res2r Tryd.results25 (by rfl) (by rfl) HR.out HL.out) rfl ⟨E, b', RS.drop m, Ev.none, mo, rfl, HO.out, HREL.out⟩
      · refine step_store (cells := ([.int .i64 0, .slice none 0 0, .int .i64 0, .int .i64 0, .int .i64 0, .int .i64 0, .int .u64 0, .bool false, .string ⟨#[]⟩, .int .i64 0, .slice none 0 0, .bool false, .int .u64 0, .string ⟨#[]⟩, .int .i64 0, .int .i64 0, .int .i64 0, .int .i64 0] : List Value).toArray) HTZ.out HOZ.out 44 (.tmp 2) (.tmp 40) (by with_reducible rfl) (by rfl) (by rfl) (by kernel_rfl) (by kernel_rfl) (by kernel_rfl) ?_
        refine hK _ _ ?_
        clear hK K
        rw [show (([.int .i64 0, .slice none 0 0, .int .i64 0, .int .i64 0, .int .i64 0, .int .i64 0, .int .u64 0, .bool false, .string ⟨#[]⟩, .int .i64 0, .slice none 0 0, .bool false, .int .u64 0, .string ⟨#[]⟩, .int .i64 0, .int .i64 0, .int .i64 0, .int .i64 0] : List Value).toArray).toList = E by rw [HE.out]]
        refine wpAny_ready (rs := [4]) (by kernel_rfl) (by simp) ?_
        refine AllReady.cons rfl (fun K hK => ?_) AllReady.nil
        go_simp
        refine hK _ _ ?_
        clear hK K
        refine wpAny_take (i := 5) (v := .bool mo) rfl (by kernel_rfl) (by kernel_rfl) (by kernel_rfl) (fun _ _ _ h => h) (Or.inl ⟨by rfl, by intro w; go_simp⟩) ?_
        refine wpAny_take (i := 7) (v := .bool mo) rfl (by kernel_rfl) (by kernel_rfl) (by kernel_rfl) (fun _ _ _ h => h) (Or.inl ⟨by rfl, by intro w; go_simp⟩) ?_
        refine wpAny_done (by kernel_rfl) ?_ _
        go_wp2_with fail
        exact bodyPost_ret (v := .tuple #[.agg E.toArray, .bool mo]) (res2r Tryd.results25 (by rfl) (by rfl) HR.out HL.out) rfl ⟨E, b', RS.drop m, Ev.none, mo, rfl, HO.out, HREL.out⟩
end Go.Proofs.YtedbklipbfbmoaaDoor
