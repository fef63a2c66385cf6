/-
  step of the reference, case by case.
-/
import Derived.Test.YtedbklipbfbmoaaDoorQDw
namespace Go.Proofs.YtedbklipbfbmoaaDoor
open Go.RowKit

set_option maxRecDepth 100000 in
set_option maxHeartbeats 2000000 in
theorem stepR_pd {o : Nat → Nat × Nat} {x P : Nat} {q : Rq} {RS : B} {ka : Option Addr} {kn kc : Nat} (hx : x < 8) (hRS : RS.length ≤ 1000000) (h3 : 3 ≤ q.verb) (hq0 : 0 ≤ q.bytes) (hq1 : q.bytes ≤ 1048576) (hb : Bs (pd [] q)) (w : World) (h : IsRf w o x P (pd [] q) RS ka kn kc) :
    Calls Tryd.prog 25 #[.pointer (some ⟨P, 0, none⟩)] w fun e w' => SOut w o x P (pd [] q) RS e w' := by
  obtain ⟨W1, hW1⟩ : ∃ W1, W1 = w.alloc (.cells #[.int .i64 0, .slice none 0 0, .int .i64 0, .int .i64 0, .int .i64 0, .int .i64 0, .int .u64 0, .bool false, .string ⟨#[]⟩, .int .i64 0, .slice none 0 0, .bool false, .int .u64 0, .string ⟨#[]⟩, .int .i64 0, .int .i64 0, .int .i64 0, .int .i64 0] 44) := ⟨_, rfl⟩
  obtain ⟨o1, ho1⟩ : ∃ o1, o1 = lab o w.heap.size (8, 8) := ⟨_, rfl⟩
  have F1 : Fr (fun _ => False) o o1 w W1 := by rw [hW1, ho1]; exact Fr.new _ _ _ _ _
  have R1 : Res W1 o1 w.heap.size := by rw [hW1, ho1]; exact Res.new44 _ _
  have I1 := h.fr F1 id id
  have F1x : Fr (TX x) o o1 w W1 := F1.mono (fun _ h => h.elim)
  have H := Lib.hid (And.intro F1x (And.intro I1 R1))
  have HW1 := Lib.hid hW1
  have c10 : W1.cell? ⟨P, 10, none⟩ = some (.int .i64 0) := I1.at_ 10 _ rfl
  have c1 : W1.cell? ⟨P, 1, none⟩ = some (.int .i64 ((q.verb : Nat) : Int)) := I1.at_ 1 _ rfl
  have HDT := Lib.hid (dataR_any hx hRS q.bytes.toNat (by omega) (by omega) hb W1 I1)
  rw [hW1] at c10 c1 HDT
  obtain ⟨V, hV⟩ : ∃ V : Int, V = ((q.verb : Nat) : Int) := ⟨_, rfl⟩
  rw [← hV] at c1
  have hv0 : ¬ V = 0 := by omega
  clear F1 R1 I1 h ho1 F1x hW1 hV
  go_enter Tryd.func25, Tryd.ntmps25
  go_wp2_with fail
  refine HDT.out.mono ?_
  rintro e w2 ⟨E, b', R', ev, more, rfl, O2, hrel⟩
  rw [← HW1.out] at O2
  obtain ⟨F1, I1, R1⟩ := H.out
  obtain ⟨hl, ho, ht, hr, hq⟩ := chain_r hx F1 R1 (Nat.le_refl _) O2
  have HL := Lib.hid hl
  have H1 := Lib.hid ho
  have HT := Lib.hid ht
  have HR := Lib.hid hr
  have HO := Lib.hid hq
  clear hl ho ht hr hq
  have HREL := Lib.hid hrel
  clear F1 I1 R1 O2 hrel H
  go_wp2_with ((with_reducible show wpList _ _ _ (Oper.mk none (Op.store 44 (.tmp 2) _) _ _ _ _ :: _) _ _); refine wpList_store_mid (by rfl) 44 (.tmp 2) (.tmp 54) (by rfl) w.heap.size 0 E.toArray (by rfl) (by rfl) HT.out (by rw [List.size_toArray, HL.out]; kernel_rfl) (all_oneCell_toArray H1.out) ?_; rw [show E.toArray.toList = E from rfl])
  exact bodyPost_ret (v := .tuple #[.agg E.toArray, .bool more]) (res2r Tryd.results25 (by rfl) (by rfl) HR.out HL.out) rfl ⟨E, b', R', ev, more, rfl, HO.out, HREL.out⟩
end Go.Proofs.YtedbklipbfbmoaaDoor
