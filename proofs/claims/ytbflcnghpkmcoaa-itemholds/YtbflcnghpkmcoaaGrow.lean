/-
  GROW of the program: twice as many buckets.
-/
import Derived.Test.YtbflcnghpkmcoaaStep
namespace Go.Proofs.Ytbflcnghpkmcoaa
open Go.RowKit

set_option maxRecDepth 100000 in
set_option maxHeartbeats 2000000 in
theorem cgrow_any (x C : Nat) (a : A) (w : World) (o : Nat → Nat × Nat) (h : IsChain w o x C a) :
    Calls Try.prog 63 #[.pointer (some ⟨C, 0, none⟩)] w fun e w' => e = .returned (.tuple #[]) ∧ ∃ o', IsChain w' o' x C a.grow ∧ Fr (fun t => t.1 = x) o o' w w' := by
  obtain ⟨E, G, h⟩ := h
  have c0 := h.c0
  have c1 := h.c1
  have c2 := h.c2
  have c3 := h.c3
  have c4 := h.c4
  have hok := h.has.ok
  have hn0 := hok.1
  have hn2 := hok.2.1
  have hm2 : a.m ≤ 8192 := by have := hok.2.2; omega
  obtain ⟨s, hs⟩ := oldV_form a.m (G false)
  have HS : Hid (oldV a.m (G false) = .slice s a.m a.m) := hs
  rw [hs] at c0
  have HC : Hid (IsC w o x C a E G) := h
  have z0 := h.fz 0
  have z1 := h.fz 1
  have z2 := h.fz 2
  have z3 := h.fz 3
  by_cases hg : a.m = 0 ∧ 2 * (a.n : Int) < a.keys ∧ a.n < 4096
  · have eg : a.grow = { a with n := 2 * a.n, m := a.n, mv := 0 } := by unfold A.grow; rw [if_pos hg]
    obtain ⟨g1, g2, g3⟩ := hg
    have HG1 : Hid (a.m = 0) := g1
    have HG3 : Hid (a.n < 4096) := g3
    have j1 : decide (0 < a.m) = false := by simp; omega
    have j2 : decide (a.keys ≤ 2 * (a.n : Int)) = false := by simp; omega
    have j3 : decide (4096 ≤ (a.n : Int)) = false := by simp; omega
    have HEG : Hid (a.grow = { a with n := 2 * a.n, m := a.n, mv := 0 }) := eg
    clear h hs eg g1 hok
    go_enter Try.func63, Try.ntmps63
    go_wp2_with fail
    obtain ⟨W, hW⟩ : ∃ W, W = (w.setCell ⟨C, 0, none⟩ (.slice (some ⟨G true, 0, none⟩) a.n a.n)).setCell ⟨C, 1, none⟩ (.int .i64 0) := ⟨_, rfl⟩
    have HCs : Hid (C < w.heap.size) := World.block_lt_of_cell? _ _ c1
    have hsz : W.heap.size = w.heap.size := by rw [hW]; simp [World.setCell]
    obtain ⟨ob, hrun, hcl, hfz⟩ := make_row W (2 * a.n) (2 * (a.n : Int)) (by omega) (by omega)
    have W0 : W.cell? ⟨C, 0, none⟩ = some (.slice (some ⟨G true, 0, none⟩) a.n a.n) := by
      rw [hW, World.cell?_setCell_other _ _ _ _ (fun e => by injection e with _ e; cases e)]; exact World.cell?_setCell_same _ _ _ c0
    have W1 : W.cell? ⟨C, 1, none⟩ = some (.int .i64 0) := by
      rw [hW]
      exact World.cell?_setCell_same _ _ _ ((World.cell?_setCell_other _ _ _ _ (fun e => by injection e with _ e; cases e)).trans c1)
    have WO : ∀ j, j ≠ 0 → j ≠ 1 → W.cell? ⟨C, j, none⟩ = w.cell? ⟨C, j, none⟩ := fun j h0 h1 => by
      rw [hW, World.cell?_setCell_other _ _ _ _ (fun e => h1 (by injection e with _ e; exact e.symm)), World.cell?_setCell_other _ _ _ _ (fun e => h0 (by injection e with _ e; exact e.symm))]
    have WZ : ∀ j, W.frozen? ⟨C, j, none⟩ = false := fun j => by rw [hW, World.frozen?_setCell, World.frozen?_setCell]; exact HC.out.fz j
    have oC1 : (o C).1 = x := by rw [HC.out.oC]
    have FW : Fr (fun t => t.1 = x) o o w W := by rw [hW]; exact (Fr.set (a := ⟨C, 0, none⟩) oC1 _).trans (Fr.set (a := ⟨C, 1, none⟩) oC1 _)
    have WB : ∀ b, b ≠ C → W.heap[b]? = w.heap[b]? := fun b hb => by rw [hW]; exact heap_set2 _ _ _ _ _ hb hb
    rw [← hW, hrun]
    clear hrun hW
    rw [hsz] at hcl hfz ⊢
    obtain ⟨W2, hW2⟩ : ∃ W2, W2 = W.alloc ob := ⟨_, rfl⟩
    have up : ∀ b, b < w.heap.size → W2.heap[b]? = W.heap[b]? := fun b hb => by rw [hW2]; exact Below.heap_alloc _ _ _ (by rw [hsz]; exact hb)
    have V : ∀ j, W2.cell? ⟨C, j, none⟩ = W.cell? ⟨C, j, none⟩ := fun j => World.cell?_of_block (a := ⟨C, j, none⟩) (up C HCs.out)
    have VZ : Hid (∀ j, W2.frozen? ⟨C, j, none⟩ = false) := fun j => (World.frozen?_of_block (a := ⟨C, j, none⟩) (up C HCs.out)).trans (WZ j)
    have V0 : Hid (W2.cell? ⟨C, 0, none⟩ = some (.slice (some ⟨G true, 0, none⟩) a.n a.n)) := (V 0).trans W0
    have V1 : Hid (W2.cell? ⟨C, 1, none⟩ = some (.int .i64 0)) := (V 1).trans W1
    have V2 : W2.cell? ⟨C, 2, none⟩ = some (.slice (some ⟨G true, 0, none⟩) a.n a.n) := (V 2).trans ((WO 2 (by decide) (by decide)).trans c2)
    have V3 : W2.cell? ⟨C, 3, none⟩ = some (.int .i64 0) := (V 3).trans ((WO 3 (by decide) (by decide)).trans c3)
    have V4 : Hid (W2.cell? ⟨C, 4, none⟩ = some (.int .i64 a.keys)) := (V 4).trans ((WO 4 (by decide) (by decide)).trans c4)
    have y2 := VZ.out 2
    have y3 := VZ.out 3
    have FW2 : Hid (Fr (fun t => t.1 = x) o (lab o w.heap.size (x, 1)) w W2) := by
      have f := Fr.new (fun t => t.1 = x) o W ob (x, 1)
      rw [hsz, ← hW2] at f
      exact FW.trans f
    have VB : Hid (∀ b, b < w.heap.size → b ≠ C → W2.heap[b]? = w.heap[b]?) := fun b h1 h2 => (up b h1).trans (WB b h2)
    have HCl : Hid (∀ i, i < 2 * a.n → W2.cell? ⟨w.heap.size, i, none⟩ = some (.pointer none)) := fun i hi => by rw [hW2]; exact hcl i hi
    have HFz : Hid (∀ i, W2.frozen? ⟨w.heap.size, i, none⟩ = false) := fun i => by rw [hW2]; exact hfz i
    rw [← hW2]
    clear hW2 up V W0 W1 WO WZ FW WB hcl hfz hsz c0 c1 c2 c3 c4 z0 z1 z2 z3
    obtain ⟨B, hB⟩ : ∃ B, B = w.heap.size := ⟨_, rfl⟩
    have HBs : Hid (B = w.heap.size) := hB
    rw [← hB] at FW2 HCl HFz HCs VB ⊢
    clear hB
    go_wp2_with fail
    obtain ⟨W3, hW3⟩ : ∃ W3, W3 = (W2.setCell ⟨C, 2, none⟩ (.slice (some ⟨B, 0, none⟩) (2 * a.n) (2 * a.n))).setCell ⟨C, 3, none⟩ (.int .i64 0) := ⟨_, rfl⟩
    rw [← hW3]
    have X : ∀ j, j ≠ 2 → j ≠ 3 → W3.cell? ⟨C, j, none⟩ = W2.cell? ⟨C, j, none⟩ := fun j h2 h3 => by
      rw [hW3, World.cell?_setCell_other _ _ _ _ (fun e => h3 (by injection e with _ e; exact e.symm)), World.cell?_setCell_other _ _ _ _ (fun e => h2 (by injection e with _ e; exact e.symm))]
    have X2 : W3.cell? ⟨C, 2, none⟩ = some (.slice (some ⟨B, 0, none⟩) (2 * a.n) (2 * a.n)) := by
      rw [hW3, World.cell?_setCell_other _ _ _ _ (fun e => by injection e with _ e; cases e)]; exact World.cell?_setCell_same _ _ _ V2
    have X3 : W3.cell? ⟨C, 3, none⟩ = some (.int .i64 0) := by
      rw [hW3]
      exact World.cell?_setCell_same _ _ _ ((World.cell?_setCell_other _ _ _ _ (fun e => by injection e with _ e; cases e)).trans V3)
    have XZ : ∀ j, W3.frozen? ⟨C, j, none⟩ = false := fun j => by rw [hW3, World.frozen?_setCell, World.frozen?_setCell]; exact VZ.out j
    have XB : ∀ b, b ≠ C → W3.heap[b]? = W2.heap[b]? := fun b hb => by rw [hW3]; exact heap_set2 _ _ _ _ _ hb hb
    have hBC : B ≠ C := fun e => by have := HCs.out; omega
    have oC3 : lab o B (x, 1) C = (x, 0) := by rw [lab_other _ _ _ (fun e => hBC e.symm)]; exact HC.out.oC
    have rn : RowR w o x (G true) a.n (E true) := HC.out.row true hn0
    have hgl : G true < B := by rw [HBs.out]; exact World.block_lt_of_cell? _ _ (rn.cl 0 hn0)
    have hgC : G true ≠ C := fun e => by have h1 := rn.og; rw [e, HC.out.oC] at h1; injection h1 with _ h1; cases h1
    refine bodyPost_end (v := .tuple #[]) (by simp [results, Try.results63, go_sem]) rfl ⟨rfl, lab o B (x, 1), ⟨fun r j => if r then [] else E true j, fun r => if r then B else G true, ?_⟩, ?_⟩
    · rw [HEG.out]
      refine ⟨(HC.out.has.grown HG1.out HG3.out).congr (fun r i _ => by cases r <;> rfl), oC3, ?_, ?_, X2, X3, ?_, XZ, fun r hr => ?_, fun _ => ?_⟩
      · show _ = some (oldV a.n (G true))
        rw [X 0 (by decide) (by decide), V0.out, oldV_pos (by omega)]
      · rw [X 1 (by decide) (by decide), V1.out]; rfl
      · rw [X 4 (by decide) (by decide), V4.out]
      · cases r with
        | true =>
          refine ⟨lab_same _ _ _, fun i hi => ?_, fun i hi => ?_, fun i hi => trivial⟩
          · exact (World.cell?_of_block (a := ⟨B, i, none⟩) (XB B hBC)).trans (HCl.out i hi)
          · exact (World.frozen?_of_block (a := ⟨B, i, none⟩) (XB B hBC)).trans (HFz.out i)
        | false =>
          refine rn.cg ((XB _ hgC).trans (VB.out _ hgl hgC)) (lab_other _ _ _ (by omega)) (fun i hi q hq => ?_)
          obtain ⟨_, hq'⟩ := (rn.ch i hi).mem hq
          have hql : q.b < B := by rw [HBs.out]; exact hq'.lt
          have hqC : q.b ≠ C := fun e => by have h1 := hq'.ob; rw [e, HC.out.oC] at h1; injection h1 with _ h1; cases h1
          exact ⟨(XB _ hqC).trans (VB.out _ hql hqC), lab_other _ _ _ (by omega)⟩
      · show G true ≠ B
        omega
    · rw [hW3]
      have oC4 : (lab o B (x, 1) C).1 = x := by rw [oC3]
      exact (FW2.out.trans (Fr.set (a := ⟨C, 2, none⟩) oC4 _)).trans (Fr.set (a := ⟨C, 3, none⟩) oC4 _)
  · have eg : a.grow = a := by unfold A.grow; rw [if_neg hg]
    rw [eg]
    clear h hs eg hok
    have hc : 0 < a.m ∨ (a.m = 0 ∧ a.keys ≤ 2 * (a.n : Int)) ∨ (a.m = 0 ∧ 2 * (a.n : Int) < a.keys ∧ 4096 ≤ a.n) := by omega
    clear hg
    rcases hc with g1 | ⟨g1, g2⟩ | ⟨g1, g2, g3⟩
    · have j1 : decide (0 < a.m) = true := by simp; omega
      go_enter Try.func63, Try.ntmps63
      go_wp2_with fail
      exact bodyPost_ret (v := .tuple #[]) (by simp [results, Try.results63, go_sem]) rfl ⟨rfl, o, ⟨E, G, HC.out⟩, Fr.refl _ _ _⟩
    · have j1 : decide (0 < a.m) = false := by simp; omega
      have j2 : decide (a.keys ≤ 2 * (a.n : Int)) = true := by simp; omega
      clear g1
      go_enter Try.func63, Try.ntmps63
      go_wp2_with fail
      exact bodyPost_ret (v := .tuple #[]) (by simp [results, Try.results63, go_sem]) rfl ⟨rfl, o, ⟨E, G, HC.out⟩, Fr.refl _ _ _⟩
    · have j1 : decide (0 < a.m) = false := by simp; omega
      have j2 : decide (a.keys ≤ 2 * (a.n : Int)) = false := by simp; omega
      have j3 : decide (4096 ≤ (a.n : Int)) = true := by simp; omega
      clear g1
      go_enter Try.func63, Try.ntmps63
      go_wp2_with fail
      exact bodyPost_ret (v := .tuple #[]) (by simp [results, Try.results63, go_sem]) rfl ⟨rfl, o, ⟨E, G, HC.out⟩, Fr.refl _ _ _⟩
end Go.Proofs.Ytbflcnghpkmcoaa
