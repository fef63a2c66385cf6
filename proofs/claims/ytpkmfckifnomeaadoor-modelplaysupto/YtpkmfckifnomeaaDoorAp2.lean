/-
  Apply: a flush, nothing, one key.
-/
import Derived.Test.YtpkmfckifnomeaaDoorAp1
namespace Go.Proofs.YtpkmfckifnomeaaDoor
open Go.RowKit

open Go.Lib (TabIs pow10Tab)
theorem flush_fin {w : World} {o : Nat → Nat × Nat} {x P b n : Nat} {l : List En} (R : Array Value) (h : IsM w o x P b n l) :
    (((Bx w R).alloc (.map #[] 0)).setCell ⟨P, 0, none⟩ (.map (some (w.heap.size + 1 + 1)))).there (w.heap.size + 1) 0 (ab 9).cs.length ∧
    ((((Bx w R).alloc (.map #[] 0)).setCell ⟨P, 0, none⟩ (.map (some (w.heap.size + 1 + 1)))).setCells (w.heap.size + 1) 0 (ab 9).cs).rangeAt (w.heap.size + 1) 0 (ab 9).cs ∧
    (∃ o', IsM ((((Bx w R).alloc (.map #[] 0)).setCell ⟨P, 0, none⟩ (.map (some (w.heap.size + 1 + 1)))).setCells (w.heap.size + 1) 0 (ab 9).cs) o' x P (w.heap.size + 1 + 1) 0 [] ∧ Fr (TX x) o o' w ((((Bx w R).alloc (.map #[] 0)).setCell ⟨P, 0, none⟩ (.map (some (w.heap.size + 1 + 1)))).setCells (w.heap.size + 1) 0 (ab 9).cs)) := by
  have hs : (Bx w R).heap.size = w.heap.size + 2 := by unfold Bx; simp only [World.size_alloc]
  have bb := bx_below w R
  have b1 := below_alloc (Bx w R) (.map #[] 0)
  have t1 : (((Bx w R).alloc (.map #[] 0)).setCell ⟨P, 0, none⟩ (.map (some (w.heap.size + 1 + 1)))).there (w.heap.size + 1) 0 (ab 9).cs.length := there_setCell (there_below (bx_there w R) b1) _ _
  have hlt := h.lt
  have hI := (h.below bb).below b1
  have f0 : Fr (TX x) o (lab o (w.heap.size + 1 + 1) (x, 1)) w ((Bx w R).alloc (.map #[] 0)) := by
    have hb := bb.trans (b1.mono (by omega))
    exact ⟨hb.os, hb.tape, hb.output, hb.size, fun c hc => lab_other _ _ _ (by omega), fun c hc _ => hb.block c hc⟩
  have mP : lab o (w.heap.size + 1 + 1) (x, 1) P = (x, 0) := by rw [lab_other _ _ _ (by omega)]; exact h.mP
  have f1 : Fr (TX x) (lab o (w.heap.size + 1 + 1) (x, 1)) (lab o (w.heap.size + 1 + 1) (x, 1)) ((Bx w R).alloc (.map #[] 0)) (((Bx w R).alloc (.map #[] 0)).setCell ⟨P, 0, none⟩ (.map (some (w.heap.size + 1 + 1)))) := Fr.set (a := ⟨P, 0, none⟩) (by show (lab o (w.heap.size + 1 + 1) (x, 1) P).1 = x; rw [mP]) _
  refine ⟨t1, World.rangeAt_setCells_same _ _ _ _ t1, lab o (w.heap.size + 1 + 1) (x, 1), ?_, (f0.trans f1).setsNew (by omega) _ _⟩
  have mp : IsMp ((Bx w R).alloc (.map #[] 0)) (w.heap.size + 1 + 1) 0 [] := by
    have := IsMp.new (Bx w R)
    rwa [hs] at this
  have i1 : IsM (((Bx w R).alloc (.map #[] 0)).setCell ⟨P, 0, none⟩ (.map (some (w.heap.size + 1 + 1)))) (lab o (w.heap.size + 1 + 1) (x, 1)) x P (w.heap.size + 1 + 1) 0 [] := by
    refine ⟨World.cell?_setCell_same _ _ _ hI.cell, by rw [World.frozen?_setCell]; exact hI.fz, mP, lab_same _ _ _, ?_, by simp [World.setCell]; have := hI.lt; simpa using this⟩
    obtain ⟨es, clock, hb', F, hn, hD⟩ := mp
    exact ⟨es, clock, (Below.heap_setCell _ _ _ _ (by show w.heap.size + 1 + 1 ≠ P; omega)).trans hb', F, hn, hD⟩
  exact i1.same (heap_setCells_other (by omega) _ _ _) (heap_setCells_other (by omega) _ _ _) (by rw [size_setCells]; exact Nat.le_refl _)
set_option maxRecDepth 100000 in
set_option maxHeartbeats 2000000 in
theorem apply_flush (x : Nat) {o : Nat → Nat × Nat} {P b n : Nat} {l : List En} (now ver : Int) (a : Option Addr) (kl kc : Nat) (fl exp by_ cas : Int) (dd : Nat) (qu : Bool) (da : ByteArray) (w : World) (h : IsM w o x P b n l) :
    Calls Tryd.prog 11 #[.pointer (some ⟨P, 0, none⟩), .agg #[Value.int .i64 13, .slice a kl kc, .int .i64 fl, .int .i64 exp, .int .i64 by_, .int .i64 cas, .int .u64 (dd : Int), .bool qu, .string da], .int .i64 now, .int .i64 ver] w fun e w' => ∃ b' o', e = .returned (.agg (ab 9).cs.toArray) ∧ IsM w' o' x P b' 0 [] ∧ Fr (TX x) o o' w w' := by
  obtain ⟨F1, F2, F3⟩ := flush_fin #[Value.int .i64 13, .slice a kl kc, .int .i64 fl, .int .i64 exp, .int .i64 by_, .int .i64 cas, .int .u64 (dd : Int), .bool qu, .string da] h
  have HT := Lib.hid F1
  have HR := Lib.hid F2
  have HF := Lib.hid F3
  have hI := (h.below (bx_below w #[Value.int .i64 13, .slice a kl kc, .int .i64 fl, .int .i64 exp, .int .i64 by_, .int .i64 cas, .int .u64 (dd : Int), .bool qu, .string da])).below (below_alloc _ (.map #[] 0))
  have cc : (((w.alloc (.cells #[Value.int .i64 13, .slice a kl kc, .int .i64 fl, .int .i64 exp, .int .i64 by_, .int .i64 cas, .int .u64 (dd : Int), .bool qu, .string da] 27)).alloc (.cells #[.int .i64 0, .slice none 0 0, .bool false, .int .u64 0, .string ⟨#[]⟩, .int .i64 0, .int .i64 0, .int .i64 0, .int .i64 0] 32)).alloc (.map #[] 0)).cell? ⟨P, 0, none⟩ = some (.map (some b)) := hI.cell
  have fz : (((w.alloc (.cells #[Value.int .i64 13, .slice a kl kc, .int .i64 fl, .int .i64 exp, .int .i64 by_, .int .i64 cas, .int .u64 (dd : Int), .bool qu, .string da] 27)).alloc (.cells #[.int .i64 0, .slice none 0 0, .bool false, .int .u64 0, .string ⟨#[]⟩, .int .i64 0, .int .i64 0, .int .i64 0, .int .i64 0] 32)).alloc (.map #[] 0)).frozen? ⟨P, 0, none⟩ = false := hI.fz
  have mm : (Instr.makeMap 63 none).run Tryd.prog ((w.alloc (.cells #[Value.int .i64 13, .slice a kl kc, .int .i64 fl, .int .i64 exp, .int .i64 by_, .int .i64 cas, .int .u64 (dd : Int), .bool qu, .string da] 27)).alloc (.cells #[.int .i64 0, .slice none 0 0, .bool false, .int .u64 0, .string ⟨#[]⟩, .int .i64 0, .int .i64 0, .int .i64 0, .int .i64 0] 32)) = .ok (.map (some (w.heap.size + 1 + 1))) (((w.alloc (.cells #[Value.int .i64 13, .slice a kl kc, .int .i64 fl, .int .i64 exp, .int .i64 by_, .int .i64 cas, .int .u64 (dd : Int), .bool qu, .string da] 27)).alloc (.cells #[.int .i64 0, .slice none 0 0, .bool false, .int .u64 0, .string ⟨#[]⟩, .int .i64 0, .int .i64 0, .int .i64 0, .int .i64 0] 32)).alloc (.map #[] 0)) := by
    have := run_makeMap (P := Tryd.prog) 63 ((w.alloc (.cells #[Value.int .i64 13, .slice a kl kc, .int .i64 fl, .int .i64 exp, .int .i64 by_, .int .i64 cas, .int .u64 (dd : Int), .bool qu, .string da] 27)).alloc (.cells #[.int .i64 0, .slice none 0 0, .bool false, .int .u64 0, .string ⟨#[]⟩, .int .i64 0, .int .i64 0, .int .i64 0, .int .i64 0] 32))
    simpa only [World.size_alloc] using this
  obtain ⟨A, hA⟩ : ∃ A, A = (ab 9).cs := ⟨_, rfl⟩
  rw [← hA] at HT HR HF ⊢
  have HA := Lib.hid hA
  have HLA : Hid (A.length = 9) := Lib.hid (by rw [hA]; rfl)
  have HOA : Hid (∀ u ∈ A, u.oneCell' = true) := Lib.hid (by rw [hA]; exact Ab.one _)
  clear F1 F2 F3 h hA hI
  go_enter Tryd.func11, Tryd.ntmps11
  go_wp2_with ((with_reducible show wpList _ _ _ (Oper.mk none (Op.store 32 (.tmp 8) _) _ _ _ _ :: _) _ _); refine wpList_store_mid (by rfl) 32 (.tmp 8) (.tmp 29) (by rfl) (w.heap.size + 1) 0 A.toArray (by rfl) (by rw [HA.out]; rfl) HT.out (by rw [List.size_toArray, HLA.out]; kernel_rfl) (all_oneCell_toArray HOA.out) ?_; rw [show A.toArray.toList = A from rfl])
  refine bodyPost_ret (v := .agg A.toArray) (by simp [results, Tryd.results11]; exact load32 HR.out HLA.out) rfl ?_
  obtain ⟨o', h1, h2⟩ := HF.out
  exact ⟨_, o', rfl, h1, h2⟩
set_option maxRecDepth 100000 in
set_option maxHeartbeats 2000000 in
theorem apply_none (P : Nat) (now ver : Int) (a : Option Addr) (kl kc : Nat) (fl exp by_ cas : Int) (dd : Nat) (qu : Bool) (da : ByteArray) (vb : Int) (h1 : (vb == 1) = false) (h2 : (vb == 2) = false) (h13 : (vb == 13) = false) (hkl : kl ≠ 1) (w : World) :
    Calls Tryd.prog 11 #[.pointer (some ⟨P, 0, none⟩), .agg #[Value.int .i64 vb, .slice a kl kc, .int .i64 fl, .int .i64 exp, .int .i64 by_, .int .i64 cas, .int .u64 (dd : Int), .bool qu, .string da], .int .i64 now, .int .i64 ver] w fun e w' => e = .returned (.agg (ab 0).cs.toArray) ∧ Below w.heap.size w w' := by
  have g1 : ((kl : Int) == 1) = false := by simp; omega
  have g2 : ((kl : Int) != 1) = true := by simp; omega
  have g3 : ¬ ((kl : Int) = 1) := by omega
  have HB := Lib.hid (bx_below w #[Value.int .i64 vb, .slice a kl kc, .int .i64 fl, .int .i64 exp, .int .i64 by_, .int .i64 cas, .int .u64 (dd : Int), .bool qu, .string da])
  go_enter Tryd.func11, Tryd.ntmps11
  go_wp2_with fail
  refine bodyPost_ret (v := .agg #[.int .i64 0, .slice none 0 0, .bool false, .int .u64 0, .string ⟨#[]⟩, .int .i64 0, .int .i64 0, .int .i64 0, .int .i64 0]) (by simp [results, Tryd.results11]; go_simp) rfl ?_
  exact ⟨rfl, HB.out⟩
end Go.Proofs.YtpkmfckifnomeaaDoor
