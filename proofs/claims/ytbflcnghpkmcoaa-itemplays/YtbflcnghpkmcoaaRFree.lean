/-
  THE REFERENCE'S Free.
-/
import Derived.Test.YtbflcnghpkmcoaaRT
import Derived.Test.YtbflcnghpkmcoaaFree
namespace Go.Proofs.Ytbflcnghpkmcoaa
open Go.RowKit

theorem frc_set1 (l : List ByteArray) (j : Nat) (d : ByteArray) : (sto l).set j (.string d) = sto (l.set j d) := by simp [sto, List.map_set]
theorem boc_set1 (l : List Bool) (j : Nat) (b : Bool) : (boc l).set j (.bool b) = boc (l.set j b) := by simp [boc, List.map_set]
/-- A number more among the free ones, the row stored. -/
theorem RT.app {w0 : World} {q0 : (Nat → Nat × Nat)} {x C i : Nat} {w w' : World} {o o' : (Nat → Nat × Nat)} {n : Nat} {fv dv lv fv' : Value} {fl fl' : List Nat} {dl : List ByteArray} {ll : List Bool} (h : RT w0 q0 x C i w o n fv fl dv dl lv ll) (F : Fr (fun t => t = (x, 3 * i + 2)) o o' w w') (hf : OwnK w' o' (x, 3 * i + 2) 1 fv' fl'.length (frc fl')) :
    RT w0 q0 x C i (w'.setCell ⟨C, i * 5 + 2, none⟩ fv') o' n fv' fl' dv dl lv ll := by
  have hC : ¬ (o C = (x, 3 * i + 2)) := by rw [h.oC]; intro e; injection e with _ e; omega
  have hlt := World.block_lt_of_cell? _ _ h.c1
  have hb := F.block C hlt hC
  have hd := h.dd.fr F (fun e => by injection e with _ e; omega)
  have hl := h.lo.fr F (fun e => by injection e with _ e; omega)
  have oC' : o' C = (x, 1) := (F.lab C hlt).trans h.oC
  have G : Fr (fun t => t = (x, 1)) o' o' w' (w'.setCell ⟨C, i * 5 + 2, none⟩ fv') := Fr.set (a := ⟨C, i * 5 + 2, none⟩) oC' _
  have ne : ∀ k, k ≠ i * 5 + 2 → (w'.setCell ⟨C, i * 5 + 2, none⟩ fv').cell? ⟨C, k, none⟩ = w.cell? ⟨C, k, none⟩ := fun k hk => (World.cell?_setCell_other _ _ _ _ (fun e => hk (by injection e with _ e; exact e.symm))).trans (World.cell?_of_block (a := ⟨C, k, none⟩) hb)
  exact ⟨oC', (ne _ (by omega)).trans h.c1, World.cell?_setCell_same _ _ _ (F.cell h.c2 hC), (ne _ (by omega)).trans h.c3, (ne _ (by omega)).trans h.c4, fun k a b c d => (ne k b).trans (h.oth k a b c d), fun k => by rw [World.frozen?_setCell, World.frozen?_of_block (a := ⟨C, k, none⟩) hb]; exact h.frz k, hf.fr G (fun e => by injection e with _ e; omega), hd.fr G (fun e => by injection e with _ e; omega), hl.fr G (fun e => by injection e with _ e; omega), (h.fr.trans (F.mono (fun t e => .inr (.inl e)))).trans (G.mono (fun t e => .inl e))⟩
/-- What Free leaves. -/
def RFreeP (w : World) (o : (Nat → Nat × Nat)) (x S : Nat) (s : St) (c k : Int) (w' : World) : Prop := ∃ o', RSlab w' o' x S (s.free c k) ∧ Fr (fun t => t.1 = x) o o' w w'
set_option maxRecDepth 100000 in
set_option maxHeartbeats 1000000 in
theorem rfree_any (x S : Nat) (hx : x ≠ 0) (s : St) (c k : Int) (w : World) (o : (Nat → Nat × Nat)) (h : RSlab w o x S s) :
    Calls Try.prog 59 #[.pointer (some ⟨S, 0, none⟩), .agg #[.int .i64 c, .int .i64 k]] w fun e w' => e = .returned (.bool (s.has c k)) ∧ RFreeP w o x S s c k w' := by
  obtain ⟨R, hR⟩ : ∃ R, R = w.heap.size := ⟨_, rfl⟩
  obtain ⟨w0, hw0⟩ : ∃ w0, w0 = w.alloc (.cells #[.int .i64 c, .int .i64 k] 51) := ⟨_, rfl⟩
  have F0 : Hid (∀ T, Fr T o (lab o R (0, 0)) w w0) := fun T => by rw [hw0, hR]; exact Fr.new T o w _ _
  have I0 : Hid (RSlab w0 (lab o R (0, 0)) x S s) := h.fr (F0.out (fun _ => False)) (fun _ x => x)
  have r0 : w0.cell? ⟨R, 0, none⟩ = some (.int .i64 c) := by rw [hw0, hR, World.cell?_alloc_new]; rfl
  have r1 : w0.cell? ⟨R, 1, none⟩ = some (.int .i64 k) := by rw [hw0, hR, World.cell?_alloc_new]; rfl
  obtain ⟨oo, hoo⟩ : ∃ oo, oo = lab o R (0, 0) := ⟨_, rfl⟩
  have oR : Hid (oo R = (0, 0)) := by rw [hoo]; exact lab_same _ _ _
  rw [← hoo] at F0 I0
  clear h hoo
  go_enter Try.func59, Try.ntmps59
  go_wp2_with fail
  rw [← hw0, ← hR]
  clear hw0 hR
  refine (there_any x S s c k _ oo I0.out).mono ?_
  rintro e w1 ⟨rfl, B1⟩
  have I1 : Hid (RSlab w1 oo x S s) := I0.out.below B1
  have F1 : Hid (∀ T, Fr T o oo w w1) := fun T => (F0.out T).trans (Fr.ofBelow T oo B1)
  have r0' := cell_up B1 r0
  have r1' := cell_up B1 r1
  clear r0 r1 F0 I0 B1
  by_cases hh : s.has c k = true
  · obtain ⟨i, m, d, rfl, rfl, hi, hm, hp, _⟩ := St.has_of hh
    have HF : Hid (s.free i m = { s with ch := upd s.ch i ((s.ch i).set m noChunk), fr := upd s.fr i (s.fr i ++ [m]) }) := by show _ = _; unfold St.free; rw [if_pos hh]; simp
    have HOK : Hid (Ok (s.free i m)) := I1.out.ok.free _ _
    rw [hh]
    have HH : Hid (s.has i m = true) := hh
    obtain ⟨C, cap, fv, dv, lv, hcap, c3, cf⟩ := I1.out.cl
    have HC : Hid (RCls w1 oo x C s fv dv lv) := cf
    have hn := I1.out.ok.n2
    obtain ⟨gd, cd, gl, cl, e1, e2, od1, ol1, hcd, hcl, k0, k1, zk0, zk1⟩ := cf.chunk hi hp
    obtain ⟨a2, b2, e3, _⟩ := (cf.ff i hi).form
    have hi1 : (i : Int) < (s.n : Int) := by omega
    have q1 := I1.out.ok.ch2 hi
    have q2 := I1.out.ok.fr2 hi
    have hm1 : (m : Int) < ((s.ch i).length : Int) := by omega
    have oC := cf.oC
    have neDC : gd ≠ C := fun e => by rw [e, oC] at od1; injection od1 with _ e; omega
    have neLC : gl ≠ C := fun e => by rw [e, oC] at ol1; injection ol1 with _ e; omega
    have neDR : gd ≠ R := fun e => by rw [e, oR.out] at od1; injection od1 with e _; exact hx e.symm
    have neLR : gl ≠ R := fun e => by rw [e, oR.out] at ol1; injection ol1 with e _; exact hx e.symm
    have neDL : gd ≠ gl := fun e => by rw [e, ol1] at od1; injection od1 with _ e; omega
    clear cf hh
    go_wp2_with fail
    go_quiet (fail)
    obtain ⟨w2, hw2⟩ : ∃ w2, w2 = w1.drewN nq := ⟨_, rfl⟩
    have B2 : Below w1.heap.size w1 w2 := by rw [hw2]; exact below_drewN (Below.refl _ _) nq
    have HC2 : Hid (RCls w2 oo x C s fv dv lv) := HC.out.fr (by omega) (Fr.ofBelow (fun _ => False) oo B2) (fun _ _ x => x)
    have I2 : Hid (RSlab w2 oo x S s) := I1.out.below B2
    have F2 : Hid (∀ T, Fr T o oo w w2) := fun T => (F1.out T).trans (Fr.ofBelow T oo B2)
    have C3 : Hid (w2.cell? ⟨S, 2, none⟩ = some (.slice (some ⟨C, 0, none⟩) s.n cap)) := cell_up B2 c3
    have K0 := cell_up B2 k0
    have K1 := cell_up B2 k1
    have ZK0 := (B2.frozen (p := ⟨gd, m, none⟩) (World.block_lt_of_cell? _ _ k0)).trans zk0
    have ZK1 := (B2.frozen (p := ⟨gl, m, none⟩) (World.block_lt_of_cell? _ _ k1)).trans zk1
    have R1 := cell_up B2 r1'
    have rt := RT.start HC2.out hi
    rw [e1, e2, e3] at rt
    have D3 := rt.c3
    have D4 := rt.c4
    obtain ⟨V, hV⟩ : ∃ V, V = (w2.setCell ⟨gl, m, none⟩ (.bool false)).setCell ⟨gd, m, none⟩ (.string ⟨#[]⟩) := ⟨_, rfl⟩
    have VF : Fr (fun t => t = (x, 3 * i + 3) ∨ t = (x, 3 * i + 4)) oo oo w2 V := by rw [hV]; exact (Fr.set (a := ⟨gl, m, none⟩) (.inr ol1) _).trans (Fr.set (a := ⟨gd, m, none⟩) (.inl od1) _)
    have lenm : ((s.ch i).map (·.2)).length = (s.ch i).length := List.length_map _
    have lenb : ((s.ch i).map (·.1)).length = (s.ch i).length := List.length_map _
    have VRT : RT w2 oo x C i V oo (s.ch i).length (.slice a2 (s.fr i).length b2) (s.fr i) (.slice (some ⟨gd, 0, none⟩) (s.ch i).length cd) (((s.ch i).map (·.2)).set m ⟨#[]⟩) (.slice (some ⟨gl, 0, none⟩) (s.ch i).length cl) (((s.ch i).map (·.1)).set m false) := by
      refine rt.keep VF (fun t e => by rcases e with rfl | rfl; exact .inr (.inr (.inl rfl)); exact .inr (.inr (.inr rfl))) (fun e => by rcases e with e | e <;> injection e with _ e <;> omega) ?_ ?_ ?_ rfl rfl rfl
      · exact rt.ff.fr VF (fun e => by rcases e with e | e <;> injection e with _ e <;> omega)
      · have f1 : Fr (fun t => t = (x, 3 * i + 4)) oo oo w2 (w2.setCell ⟨gl, m, none⟩ (.bool false)) := Fr.set (a := ⟨gl, m, none⟩) ol1 _
        have dd := rt.dd
        rw [lenm] at dd
        have := (dd.fr f1 (fun e => by injection e with _ e; omega)).set m (.string ⟨#[]⟩) rfl (by omega)
        rw [hV, List.length_set, lenm, ← frc_set1]; exact this
      · have lo := rt.lo
        rw [lenb] at lo
        have := (lo.set m (.bool false) rfl (by omega)).fr (Fr.set (T := fun t => t = (x, 3 * i + 3)) (a := ⟨gd, m, none⟩) od1 (.string ⟨#[]⟩)) (fun e => by injection e with _ e; omega)
        rw [hV, List.length_set, lenb, ← boc_set1]; exact this
    have VR : V.cell? ⟨R, 1, none⟩ = some (.int .i64 (m : Int)) := by
      rw [hV, World.cell?_setCell_other _ _ _ _ (fun e => neDR (by injection e)), World.cell?_setCell_other _ _ _ _ (fun e => neLR (by injection e))]; exact R1
    have VD3 := VRT.c3
    have VD4 := VRT.c4
    have VD2 := VRT.c2
    have KP : ((w2.setCell ⟨gl, m, none⟩ (.bool false)).setCell ⟨gd, m, none⟩ (.string ⟨#[]⟩)).cell? ⟨C, i * 5 + 4, none⟩ = some (.slice (some ⟨gl, 0, none⟩) (s.ch i).length cl) ∧ ((w2.setCell ⟨gl, m, none⟩ (.bool false)).setCell ⟨gd, m, none⟩ (.string ⟨#[]⟩)).cell? ⟨C, i * 5 + 3, none⟩ = some (.slice (some ⟨gd, 0, none⟩) (s.ch i).length cd) ∧ ((w2.setCell ⟨gl, m, none⟩ (.bool false)).setCell ⟨gd, m, none⟩ (.string ⟨#[]⟩)).cell? ⟨R, 1, none⟩ = some (.int .i64 (m : Int)) := by rw [← hV]; exact ⟨VD4, VD3, VR⟩
    have KQ : (w2.setCell ⟨gl, m, none⟩ (.bool false)).cell? ⟨C, i * 5 + 4, none⟩ = some (.slice (some ⟨gl, 0, none⟩) (s.ch i).length cl) ∧ (w2.setCell ⟨gl, m, none⟩ (.bool false)).cell? ⟨C, i * 5 + 3, none⟩ = some (.slice (some ⟨gd, 0, none⟩) (s.ch i).length cd) ∧ (w2.setCell ⟨gl, m, none⟩ (.bool false)).cell? ⟨R, 1, none⟩ = some (.int .i64 (m : Int)) := by
      rw [World.cell?_setCell_other _ _ _ _ (fun e => neLC (by injection e)), World.cell?_setCell_other _ _ _ _ (fun e => neLC (by injection e)), World.cell?_setCell_other _ _ _ _ (fun e => neLR (by injection e))]
      exact ⟨D4, D3, R1⟩
    have KD : (w2.setCell ⟨gl, m, none⟩ (.bool false)).cell? ⟨gd, m, none⟩ = some (.string d) := by
      rw [World.cell?_setCell_other _ _ _ _ (fun e => neDL (by injection e with e; exact e.symm))]; exact K0
    have OF2 := (VRT.drew.drew).ff
    obtain ⟨v3, w3, o3, hrun, O3, F3⟩ := app_one 64 3 (.int .i64 0) 8 under64 info3 (by kernel_rfl) OF2 [.int .i64 ((m : Nat) : Int)] rfl (fun x hx => by simp at hx; subst hx; rfl) (by omega) (by omega)
    obtain ⟨a3, b3, rfl, _⟩ := O3.form
    rw [← hw2]
    have HRT : Hid (RT w2 oo x C i V oo (s.ch i).length (.slice a2 (s.fr i).length b2) (s.fr i) (.slice (some ⟨gd, 0, none⟩) (s.ch i).length cd) (((s.ch i).map (·.2)).set m ⟨#[]⟩) (.slice (some ⟨gl, 0, none⟩) (s.ch i).length cl) (((s.ch i).map (·.1)).set m false)) := VRT
    have HV : Hid (V = (w2.setCell ⟨gl, m, none⟩ (.bool false)).setCell ⟨gd, m, none⟩ (.string ⟨#[]⟩)) := hV
    clear hw2 B2 VRT VF rt
    go_wp2_with fail
    go_region_held3 (fun w' => w'.cell? ⟨C, i * 5 + 4, none⟩ = some (.slice (some ⟨gl, 0, none⟩) (s.ch i).length cl) ∧ w'.cell? ⟨C, i * 5 + 3, none⟩ = some (.slice (some ⟨gd, 0, none⟩) (s.ch i).length cd) ∧ w'.cell? ⟨R, 1, none⟩ = some (.int .i64 (m : Int)))
      (first | exact ⟨D4, D3, R1⟩ | exact KQ | exact KP) (fail)
    rw [← hV]
    have DONE : Hid (RFreeP w o x S s i m (w3.setCell ⟨C, i * 5 + 2, none⟩ (.slice a3 ((s.fr i).length + 1) b3))) := by
      have F3' : Fr (fun t => t = (x, 3 * i + 2)) oo o3 V w3 := ((Fr.drew1 _ oo V).trans (Fr.drew1 _ oo V.drew)).trans F3
      have hf : OwnK w3 o3 (x, 3 * i + 2) 1 (.slice a3 ((s.fr i).length + 1) b3) (s.fr i ++ [m]).length (frc (s.fr i ++ [m])) := by
        rw [List.length_append, frc_append]; exact O3
      have rt3 : RT w2 oo x C i (w3.setCell ⟨C, i * 5 + 2, none⟩ (.slice a3 ((s.fr i).length + 1) b3)) o3 (s.ch i).length (.slice a3 ((s.fr i).length + 1) b3) (s.fr i ++ [m]) (.slice (some ⟨gd, 0, none⟩) (s.ch i).length cd) (((s.ch i).map (·.2)).set m ⟨#[]⟩) (.slice (some ⟨gl, 0, none⟩) (s.ch i).length cl) (((s.ch i).map (·.1)).set m false) :=
        RT.app HRT.out F3' hf
      have cf := rt3.done HC2.out (s' := s.free i m) (by rw [HF.out]) (fun j e => by rw [HF.out]; exact upd_other _ _ _ e) (fun j e => by rw [HF.out]; exact upd_other _ _ _ e) (by rw [HF.out]; show (upd s.ch i _ i).length = _; rw [upd_same, List.length_set]) (by rw [HF.out]; exact upd_same _ _ _) (by rw [HF.out]; show (upd s.ch i _ i).map _ = _; rw [upd_same, List.map_set]; rfl) (by rw [HF.out]; show (upd s.ch i _ i).map _ = _; rw [upd_same, List.map_set]; rfl)
      have TT := rt3.fr
      have oS : oo S = (x, 0) := I2.out.oS
      have nS : ¬ TI x i (oo S) := by rw [oS]; exact TI_0 x i
      have hSw : S < w2.heap.size := World.block_lt_of_cell? _ _ I2.out.c0
      refine ⟨o3, ⟨HOK.out, (TT.lab S hSw).trans oS, ?_, ?_, (TT.frozen hSw nS).trans I2.out.f1, C, cap, _, _, _, ?_, ?_, cf⟩, (F2.out _).trans (TT.mono (fun t e => TI_x e))⟩
      · rw [(s.free_same _ _).2.2.1]; exact TT.cell I2.out.c0 nS
      · rw [(s.free_same _ _).2.2.2]; exact TT.cell I2.out.c1 nS
      · rw [(s.free_same _ _).1]; exact hcap
      · rw [(s.free_same _ _).1]; exact TT.cell C3.out nS
    have nC : ¬ (oo C = (x, 3 * i + 2)) := by rw [oC]; intro e; injection e with _ e; omega
    have hCV : C < V.heap.size := World.block_lt_of_cell? _ _ VD2
    have W2 := F3.cell VD2 nC
    have VZ2 : V.frozen? ⟨C, i * 5 + 2, none⟩ = false := (HRT.out.frz _).trans (HC2.out.fz i hi 2 (by omega))
    have WZ2 : w3.frozen? ⟨C, i * 5 + 2, none⟩ = false := (F3.frozen (off := i * 5 + 2) hCV nC).trans VZ2
    clear hV KP KQ KD D3 D4 K0 K1 ZK0 ZK1 R1 VD3 VD4 OF2 O3 F3 HRT HC2 I2 F2 C3 HOK HF
    go_wp2_with fail
    go_region_law (refine step_app rfl (.tmp 35) (.tmp 38) 64 64 rfl _ _ _ rfl rfl hrun ?_)
    all_goals
      go_wp2_with fail
      go_ret
      exact ⟨by rw [HH.out]; rfl, DONE.out⟩
  · have hh' : s.has c k = false := by simpa using hh
    have HF : Hid (s.free c k = s) := by show _ = _; unfold St.free; rw [if_neg hh]
    rw [hh']
    have HH : Hid (s.has c k = false) := hh'
    clear hh hh'
    go_wp2_with fail
    go_ret
    exact ⟨by rw [HH.out]; rfl, oo, by rw [HF.out]; exact I1.out, F1.out _⟩
end Go.Proofs.Ytbflcnghpkmcoaa
