/-
  FREE of a slab.
-/
import Derived.Test.YtbflcnghpkmcoaaTurn
import Derived.Deep.RegionLaw
namespace Go.Proofs.Ytbflcnghpkmcoaa
open Go.RowKit

/-- append as a step of a region that draws: its run is known. -/
theorem step_app {P : Program} {ops : Array Oper} {o : Oper} {a : Act} {w w' : World} {K : Act → World → Prop} {Q : Exit → Act → World → Prop} {E : Prop} (hgd : o.guard = none) (s x : Operand) (t tx : TypeId)
    (ho : o.op = .call { callee := .builtin .append, args := #[s, x], argTypes := #[t, tx] }) (v xv v' : Value) (hs : a.eval s = v) (hx : a.eval x = xv)
    (hr : (Builtin.append_ #[t, tx] o.type #[v, xv]).run P w = .ok v' w') (h : K (a.put o.dst v') w') :
    if Region.wanted o (yielded ops a.tmps) = true then Oper.wp P o a w K Q else E := by
  rw [if_pos (by simp [Region.wanted, hgd])]
  unfold Oper.wp execOp
  simp only [ho, resolve, invoke, builtin, Sem.run_bind, Sem.run_pure, Result.andThen_ok, List.map_toArray, List.map_cons, List.map_nil, hs, hx, hr]
  exact h
/-- What Free leaves. -/
def FreeP (w : World) (o : (Nat → Nat × Nat)) (x S : Nat) (s : St) (c k : Int) (w' : World) : Prop := ∃ o', IsSlab w' o' x S (s.free c k) ∧ Fr (fun t => t.1 = x) o o' w w'
set_option maxRecDepth 100000 in
set_option maxHeartbeats 1000000 in
theorem free_any (x S : Nat) (hx : x ≠ 0) (s : St) (c k : Int) (w : World) (o : (Nat → Nat × Nat)) (h : IsSlab w o x S s) :
    Calls Try.prog 57 #[.pointer (some ⟨S, 0, none⟩), .agg #[.int .i64 c, .int .i64 k]] w fun e w' => e = .returned (.bool (s.has c k)) ∧ FreeP w o x S s c k w' := by
  obtain ⟨R, hR⟩ : ∃ R, R = w.heap.size := ⟨_, rfl⟩
  have HR : Hid (R = w.heap.size) := hR
  obtain ⟨w0, hw0⟩ : ∃ w0, w0 = w.alloc (.cells #[.int .i64 c, .int .i64 k] 51) := ⟨_, rfl⟩
  have F0 : Hid (∀ T, Fr T o (lab o R (0, 0)) w w0) := fun T => by rw [hw0, hR]; exact Fr.new T o w _ _
  have I0 : Hid (IsSlab w0 (lab o R (0, 0)) x S s) := h.fr (F0.out (fun _ => False)) (fun _ x => x)
  have r0 : w0.cell? ⟨R, 0, none⟩ = some (.int .i64 c) := by rw [hw0, hR, World.cell?_alloc_new]; rfl
  have r1 : w0.cell? ⟨R, 1, none⟩ = some (.int .i64 k) := by rw [hw0, hR, World.cell?_alloc_new]; rfl
  obtain ⟨oo, hoo⟩ : ∃ oo, oo = lab o R (0, 0) := ⟨_, rfl⟩
  have oR : Hid (oo R = (0, 0)) := by rw [hoo]; exact lab_same _ _ _
  rw [← hoo] at F0 I0
  clear h hoo
  go_enter Try.func57, Try.ntmps57
  go_wp2_with fail
  rw [← hw0, ← hR]
  have L34 : (w0.cell? ⟨R, 0, none⟩ = some (.int .i64 c)) := r0
  clear hw0 hR
  refine (has_any x S s c k _ oo I0.out).mono ?_
  rintro e w1 ⟨rfl, B1⟩
  have I1 : Hid (IsSlab w1 oo x S s) := I0.out.below B1
  have F1 : Hid (∀ T, Fr T o oo w w1) := fun T => (F0.out T).trans (Fr.ofBelow T oo B1)
  have r0' := cell_up B1 r0
  have r1' := cell_up B1 r1
  have hRw1 : Hid (R < w1.heap.size) := World.block_lt_of_cell? _ _ r0'
  clear r0 r1 F0 I0 B1 L34
  by_cases hh : s.has c k = true
  · obtain ⟨i, m, d, rfl, rfl, hi, hm, hp, _⟩ := St.has_of hh
    have HF : Hid (s.free i m = { s with ch := upd s.ch i ((s.ch i).set m noChunk), fr := upd s.fr i (s.fr i ++ [m]) }) := by show _ = _; unfold St.free; rw [if_pos hh]; simp
    have HOK : Hid (Ok (s.free i m)) := I1.out.ok.free _ _
    rw [hh]
    obtain ⟨C, cap, kv, fv, hcap, c3, cf⟩ := I1.out.cl
    have HC : Hid (ClsF w1 oo x C s kv fv) := cf
    have hn := I1.out.ok.n2
    have d1 := cf.c1 i hi
    have d2 := cf.c2 i hi
    have z2 := cf.f2 i hi
    obtain ⟨gk, ck, e1, ok1, hck, k0, k1, zk0, zk1⟩ := cf.chunk hi hp
    obtain ⟨a2, b2, e2, _⟩ := (cf.ff i hi).form
    rw [e1] at d1
    rw [e2] at d2
    have hi1 : (i : Int) < (s.n : Int) := by omega
    have q1 := I1.out.ok.ch2 hi
    have q2 := I1.out.ok.fr2 hi
    have hm1 : (m : Int) < ((s.ch i).length : Int) := by omega
    have oC := cf.oC
    have gneC : gk ≠ C := fun e => by rw [e, oC] at ok1; injection ok1 with _ e; omega
    have gneR : gk ≠ R := fun e => by rw [e, oR.out] at ok1; injection ok1 with e _; exact hx e.symm
    have HH : Hid (s.has i m = true) := hh
    clear cf hh
    go_wp2_with fail
    go_quiet (fail)
    obtain ⟨w2, hw2⟩ : ∃ w2, w2 = w1.drewN nq := ⟨_, rfl⟩
    have D1 : w2.cell? ⟨C, i * 3 + 1, none⟩ = some (.slice (some ⟨gk, 0, none⟩) (s.ch i).length ck) := by rw [hw2]; exact d1
    have D2 : w2.cell? ⟨C, i * 3 + 2, none⟩ = some (.slice a2 (s.fr i).length b2) := by rw [hw2]; exact d2
    have Z2 : w2.frozen? ⟨C, i * 3 + 2, none⟩ = false := by rw [hw2]; exact z2
    have K0 : w2.cell? ⟨gk, m * 2, none⟩ = some (.bool true) := by rw [hw2]; exact k0
    have K1 : w2.cell? ⟨gk, m * 2 + 1, none⟩ = some (.string d) := by rw [hw2]; exact k1
    have ZK0 : w2.frozen? ⟨gk, m * 2, none⟩ = false := by rw [hw2]; exact zk0
    have ZK1 : w2.frozen? ⟨gk, m * 2 + 1, none⟩ = false := by rw [hw2]; exact zk1
    have R1 : w2.cell? ⟨R, 1, none⟩ = some (.int .i64 (m : Int)) := by rw [hw2]; exact r1'
    have I2 : Hid (IsSlab w2 oo x S s) := by rw [hw2]; exact I1.out.below (below_drewN (Below.refl _ _) nq)
    have HC2 : Hid (ClsF w2 oo x C s kv fv) := by rw [hw2]; exact HC.out.fr (by omega) (Fr.drewN (fun _ => False) oo w1 nq) (fun _ x => x)
    have F2 : Hid (∀ T, Fr T o oo w w2) := fun T => by rw [hw2]; exact (F1.out T).trans (Fr.drewN T oo w1 nq)
    have C3 : Hid (w2.cell? ⟨S, 3, none⟩ = some (.slice (some ⟨C, 0, none⟩) s.n cap)) := by rw [hw2]; exact c3
    rw [← hw2]
    clear hw2 d1 d2 z2 k0 k1 zk0 zk1 r0' r1' I1 HC F1 c3 hRw1
    obtain ⟨V, hV⟩ : ∃ V, V = (w2.setCell ⟨gk, m * 2, none⟩ (.bool false)).setCell ⟨gk, m * 2 + 1, none⟩ (.string ⟨#[]⟩) := ⟨_, rfl⟩
    have VC : ∀ j, V.cell? ⟨C, j, none⟩ = w2.cell? ⟨C, j, none⟩ := fun j => by
      rw [hV, World.cell?_setCell_other _ _ _ _ (fun e => gneC (by injection e)), World.cell?_setCell_other _ _ _ _ (fun e => gneC (by injection e))]
    have VR : V.cell? ⟨R, 1, none⟩ = some (.int .i64 (m : Int)) := by
      rw [hV, World.cell?_setCell_other _ _ _ _ (fun e => gneR (by injection e)), World.cell?_setCell_other _ _ _ _ (fun e => gneR (by injection e))]; exact R1
    have VD1 : V.cell? ⟨C, i * 3 + 1, none⟩ = some (.slice (some ⟨gk, 0, none⟩) (s.ch i).length ck) := (VC _).trans D1
    have VD2 : V.cell? ⟨C, i * 3 + 2, none⟩ = some (.slice a2 (s.fr i).length b2) := (VC _).trans D2
    have VZ : ∀ j, V.frozen? ⟨C, j, none⟩ = w2.frozen? ⟨C, j, none⟩ := fun j => by rw [hV, World.frozen?_setCell, World.frozen?_setCell]
    have VF : Fr (fun t => t = (x, 2 * i + 2)) oo oo w2 V := by rw [hV]; exact (Fr.set (a := ⟨gk, m * 2, none⟩) ok1 _).trans (Fr.set (a := ⟨gk, m * 2 + 1, none⟩) ok1 _)
    have OK1 : OwnK V oo (x, 2 * i + 2) 2 (.slice (some ⟨gk, 0, none⟩) (s.ch i).length ck) (s.ch i).length (ckc ((s.ch i).set m noChunk)) := by
      have kk := HC2.out.kk i hi
      rw [e1] at kk
      have := (kk.set (m * 2) (.bool false) rfl (by omega)).set (m * 2 + 1) (.string ⟨#[]⟩) rfl (by omega)
      rw [hV, ← ckc_set (s.ch i) m noChunk]; exact this
    have OF1 : OwnK V oo (x, 2 * i + 3) 1 (.slice a2 (s.fr i).length b2) (s.fr i).length (frc (s.fr i)) := by
      have ff := (HC2.out.ff i hi).fr VF (fun e => by injection e with _ e; omega)
      rw [e2] at ff; exact ff
    have OF2 := (OF1.fr (Fr.drew1 (fun _ => False) oo V) (fun x => x)).fr (Fr.drew1 (fun _ => False) oo V.drew) (fun x => x)
    obtain ⟨v3, w3, o3, hrun, O3, F3⟩ := app_one 64 3 (.int .i64 0) 8 under64 info3 (by kernel_rfl) OF2 [.int .i64 ((m : Nat) : Int)] rfl (fun x hx => by simp at hx; subst hx; rfl) (by omega) (by omega)
    obtain ⟨a3, b3, rfl, _⟩ := O3.form
    have HVC : Hid (∀ j, V.cell? ⟨C, j, none⟩ = w2.cell? ⟨C, j, none⟩) := VC
    have HVZ : Hid (∀ j, V.frozen? ⟨C, j, none⟩ = w2.frozen? ⟨C, j, none⟩) := VZ
    have VZ2 : V.frozen? ⟨C, i * 3 + 2, none⟩ = false := (VZ _).trans Z2
    clear VC VZ Z2
    have HV : Hid (V = (w2.setCell ⟨gk, m * 2, none⟩ (.bool false)).setCell ⟨gk, m * 2 + 1, none⟩ (.string ⟨#[]⟩)) := hV
    have KP : ((w2.setCell ⟨gk, m * 2, none⟩ (.bool false)).setCell ⟨gk, m * 2 + 1, none⟩ (.string ⟨#[]⟩)).cell? ⟨C, i * 3 + 1, none⟩ = some (.slice (some ⟨gk, 0, none⟩) (s.ch i).length ck) ∧ ((w2.setCell ⟨gk, m * 2, none⟩ (.bool false)).setCell ⟨gk, m * 2 + 1, none⟩ (.string ⟨#[]⟩)).cell? ⟨R, 1, none⟩ = some (.int .i64 (m : Int)) := by rw [← hV]; exact ⟨VD1, VR⟩
    go_wp2_with fail
    go_region_held3 (fun w' => w'.cell? ⟨C, i * 3 + 1, none⟩ = some (.slice (some ⟨gk, 0, none⟩) (s.ch i).length ck) ∧ w'.cell? ⟨R, 1, none⟩ = some (.int .i64 (m : Int)))
      (first | exact ⟨D1, R1⟩ | exact KP) (fail)
    rw [← hV]
    clear hV D1 D2 K0 K1 ZK0 ZK1 R1 KP
    go_wp2_with fail
    have hCV : C < V.heap.size := World.block_lt_of_cell? _ _ VD1
    have nC : ¬ (oo C = (x, 2 * i + 3)) := by rw [oC]; intro e; injection e with _ e; omega
    have nR : ¬ (oo R = (x, 2 * i + 3)) := by rw [oR.out]; intro e; injection e with e _; exact hx e.symm
    have VN : Below V.heap.size V (V.alloc (.cells #[.int .i64 (m : Int)] 3)) := (Below.refl _ _).alloc (Nat.le_refl _) _
    have AD2 := cell_up VN VD2
    have AR := cell_up VN VR
    have W2 := F3.cell VD2 nC
    have WR := F3.cell VR nR
    have WZ2 : w3.frozen? ⟨C, i * 3 + 2, none⟩ = false := (F3.frozen (off := i * 3 + 2) hCV nC).trans VZ2
    have DONE : Hid (FreeP w o x S s i m (w3.setCell ⟨C, i * 3 + 2, none⟩ (.slice a3 ((s.fr i).length + 1) b3))) := by
      have F3' : Fr (fun t => t = (x, 2 * i + 3)) oo o3 V w3 := ((Fr.drew1 _ oo V).trans (Fr.drew1 _ oo V.drew)).trans F3
      have oC3 : o3 C = (x, 1) := (F3'.lab C hCV).trans oC
      have FS : Fr (fun t => t = (x, 1)) o3 o3 w3 (w3.setCell ⟨C, i * 3 + 2, none⟩ (.slice a3 ((s.fr i).length + 1) b3)) := Fr.set (a := ⟨C, i * 3 + 2, none⟩) oC3 _
      have TT : Fr (fun t => t = (x, 1) ∨ t = (x, 2 * i + 2) ∨ t = (x, 2 * i + 3)) oo o3 w2 (w3.setCell ⟨C, i * 3 + 2, none⟩ (.slice a3 ((s.fr i).length + 1) b3)) :=
        ((VF.mono (fun t h => .inr (.inl h))).trans (F3'.mono (fun t h => .inr (.inr h)))).trans (FS.mono (fun t h => .inl h))
      have oS : oo S = (x, 0) := I2.out.oS
      have nS : ¬ (oo S = (x, 1) ∨ oo S = (x, 2 * i + 2) ∨ oo S = (x, 2 * i + 3)) := by rw [oS]; intro e; rcases e with e | e | e <;> injection e with _ e <;> omega
      have hSw : S < w2.heap.size := World.block_lt_of_cell? _ _ I2.out.c0
      have hC2 : C < w2.heap.size := World.block_lt_of_cell? _ _ (HC2.out.c0 i hi)
      have cf : ClsF (w3.setCell ⟨C, i * 3 + 2, none⟩ (.slice a3 ((s.fr i).length + 1) b3)) o3 x C (s.free i m) (upd kv i (.slice (some ⟨gk, 0, none⟩) (s.ch i).length ck)) (upd fv i (.slice a3 ((s.fr i).length + 1) b3)) := by
        rw [HF.out]
        refine HC2.out.turn (i := i) hi rfl (TT.lab C hC2) (fun j e => upd_other _ _ _ e) (fun j e => upd_other _ _ _ e) (fun j j1 j2 => ?_) (fun j => ?_) ?_ (World.cell?_setCell_same _ _ _ W2) ?_ ?_ TT
        · rw [World.cell?_setCell_other _ _ _ _ (fun e => j2 (by injection e with _ e; exact e.symm)), World.cell?_of_block (a := ⟨C, j, none⟩) (F3'.block C hCV nC)]; exact HVC.out j
        · rw [World.frozen?_setCell, World.frozen?_of_block (a := ⟨C, j, none⟩) (F3'.block C hCV nC)]; exact HVZ.out j
        · rw [World.cell?_setCell_other _ _ _ _ (fun e => by injection e with _ e; omega), World.cell?_of_block (a := ⟨C, i * 3 + 1, none⟩) (F3'.block C hCV nC)]; exact VD1
        · show OwnK _ _ _ _ _ (upd s.ch i _ i).length (ckc (upd s.ch i _ i))
          rw [upd_same, List.length_set]
          exact (OK1.fr F3' (fun e => by injection e with _ e; omega)).fr FS (fun e => by injection e with _ e; omega)
        · show OwnK _ _ _ _ _ (upd s.fr i _ i).length (frc (upd s.fr i _ i))
          rw [upd_same, List.length_append, frc_append]
          exact O3.fr FS (fun e => by injection e with _ e; omega)
      refine ⟨o3, ⟨HOK.out, (TT.lab S hSw).trans oS, ?_, ?_, ?_, (TT.frozen hSw nS).trans I2.out.f2, C, cap, _, _, ?_, ?_, cf⟩, (F2.out _).trans (TT.mono (fun t e => by rcases e with rfl | rfl | rfl <;> rfl))⟩
      · rw [(s.free_same _ _).2.2.1]; exact TT.cell I2.out.c0 nS
      · rw [(s.free_same _ _).2.1]; exact TT.cell I2.out.c1 nS
      · rw [(s.free_same _ _).2.2.2]; exact TT.cell I2.out.c2 nS
      · rw [(s.free_same _ _).1]; exact hcap
      · rw [(s.free_same _ _).1]; exact TT.cell C3.out nS
    have HRES : Hid (s.has i m = true) := HH
    clear AD2 WR VF OK1 OF1 OF2 F3 O3 HVC HVZ HC2 I2 F2 C3 HOK HF
    go_region_law (refine step_app rfl (.tmp 29) (.tmp 32) 64 64 rfl _ _ _ rfl rfl hrun ?_)
    all_goals
      go_wp2_with fail
      go_ret
      exact ⟨by rw [HRES.out]; rfl, DONE.out⟩
  · have hh' : s.has c k = false := by simpa using hh
    have HF : Hid (s.free c k = s) := by show _ = _; unfold St.free; rw [if_neg hh]
    rw [hh']
    have HH : Hid (s.has c k = false) := hh'
    clear hh hh'
    go_wp2_with fail
    go_ret
    exact ⟨by rw [HH.out]; rfl, oo, by rw [HF.out]; exact I1.out, F1.out _⟩
end Go.Proofs.Ytbflcnghpkmcoaa
