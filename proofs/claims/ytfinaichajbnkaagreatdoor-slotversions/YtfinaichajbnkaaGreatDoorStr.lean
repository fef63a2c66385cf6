/-
  FREE of a slab.
-/
import Derived.Test.YtfinaichajbnkaaGreatDoorTurn
import Derived.Deep.RegionLaw
import Derived.Test.YtfinaichajbnkaaGreatDoorSlab
import Derived.Test.YtfinaichajbnkaaGreatDoorMem
namespace Go.Proofs.YtfinaichajbnkaaGreatDoor
open Go.RowKit

/-- append as a step of a region that draws: its run is known. -/
theorem step_app {P : Program} {ops : Array Oper} {o : Oper} {a : Act} {w w' : World} {K : Act → World → Prop} {Q : Exit → Act → World → Prop} {E : Prop} (hgd : o.guard = none) (s x : Operand) (t tx : TypeId)
    (ho : o.op = .call { callee := .builtin .append, args := #[s, x], argTypes := #[t, tx] }) (v xv v' : Value) (hs : a.eval s = v) (hx : a.eval x = xv)
    (hr : (Builtin.append_ #[t, tx] o.type #[v, xv]).run P w = .ok v' w') (h : K (a.put o.dst v') w') :
    if Region.wanted o (yielded ops a.tmps) = true then Oper.wp P o a w K Q else E := by
  rw [if_pos (by simp [Region.wanted, hgd])]
  unfold Oper.wp execOp
  simp only [ho, resolve, invoke, builtin, Sem.run_bind, Sem.run_pure, Result.andThen_ok, List.map_toArray, List.map_cons, List.map_nil, hs, hx, hr]
  exact h
/-- What Free leaves. -/
def FreeP (w : World) (o : (Nat → Nat × Nat)) (x S : Nat) (s : St) (c k : Int) (w' : World) : Prop := ∃ o', IsSlab w' o' x S (s.free c k) ∧ Fr (fun t => t.1 = x) o o' w w'
set_option maxRecDepth 100000 in
set_option maxHeartbeats 1000000 in
theorem free_any (x S : Nat) (hx : x ≠ 0) (s : St) (c k : Int) (w : World) (o : (Nat → Nat × Nat)) (h : IsSlab w o x S s) :
    Calls Tryz.prog 91 #[.pointer (some ⟨S, 0, none⟩), .agg #[.int .i64 c, .int .i64 k]] w fun e w' => e = .returned (.bool (s.has c k)) ∧ FreeP w o x S s c k w' := by
  obtain ⟨R, hR⟩ : ∃ R, R = w.heap.size := ⟨_, rfl⟩
  have HR : Hid (R = w.heap.size) := hR
  obtain ⟨w0, hw0⟩ : ∃ w0, w0 = w.alloc (.cells #[.int .i64 c, .int .i64 k] 56) := ⟨_, rfl⟩
  have F0 : Hid (∀ T, Fr T o (lab o R (0, 0)) w w0) := fun T => by rw [hw0, hR]; exact Fr.new T o w _ _
  have I0 : Hid (IsSlab w0 (lab o R (0, 0)) x S s) := h.fr (F0.out (fun _ => False)) (fun _ x => x)
  have r0 : w0.cell? ⟨R, 0, none⟩ = some (.int .i64 c) := by rw [hw0, hR, World.cell?_alloc_new]; rfl
  have r1 : w0.cell? ⟨R, 1, none⟩ = some (.int .i64 k) := by rw [hw0, hR, World.cell?_alloc_new]; rfl
  obtain ⟨oo, hoo⟩ : ∃ oo, oo = lab o R (0, 0) := ⟨_, rfl⟩
  have oR : Hid (oo R = (0, 0)) := by rw [hoo]; exact lab_same _ _ _
  rw [← hoo] at F0 I0
  clear h hoo
  go_enter Tryz.func91, Tryz.ntmps91
  go_wp2_with fail
  rw [← hw0, ← hR]
  have L34 : (w0.cell? ⟨R, 0, none⟩ = some (.int .i64 c)) := r0
  clear hw0 hR
  refine (has_any x S s c k _ oo I0.out).mono ?_
  rintro e w1 ⟨rfl, B1⟩
  have I1 : Hid (IsSlab w1 oo x S s) := I0.out.below B1
  have F1 : Hid (∀ T, Fr T o oo w w1) := fun T => (F0.out T).trans (Fr.ofBelow T oo B1)
  have r0' := cell_up B1 r0
  have r1' := cell_up B1 r1
  have hRw1 : Hid (R < w1.heap.size) := World.block_lt_of_cell? _ _ r0'
  clear r0 r1 F0 I0 B1 L34
  by_cases hh : s.has c k = true
  · obtain ⟨i, m, d, rfl, rfl, hi, hm, hp, _⟩ := St.has_of hh
    have HF : Hid (s.free i m = { s with ch := upd s.ch i ((s.ch i).set m noChunk), fr := upd s.fr i (s.fr i ++ [m]) }) := by show _ = _; unfold St.free; rw [if_pos hh]; simp
    have HOK : Hid (Ok (s.free i m)) := I1.out.ok.free _ _
    rw [hh]
    obtain ⟨C, cap, kv, fv, hcap, c3, cf⟩ := I1.out.cl
    have HC : Hid (ClsF w1 oo x C s kv fv) := cf
    have hn := I1.out.ok.n2
    have d1 := cf.c1 i hi
    have d2 := cf.c2 i hi
    have z2 := cf.f2 i hi
    obtain ⟨gk, ck, e1, ok1, hck, k0, k1, zk0, zk1⟩ := cf.chunk hi hp
    obtain ⟨a2, b2, e2, _⟩ := (cf.ff i hi).form
    rw [e1] at d1
    rw [e2] at d2
    have hi1 : (i : Int) < (s.n : Int) := by omega
    have q1 := I1.out.ok.ch2 hi
    have q2 := I1.out.ok.fr2 hi
    have hm1 : (m : Int) < ((s.ch i).length : Int) := by omega
    have oC := cf.oC
    have gneC : gk ≠ C := fun e => by rw [e, oC] at ok1; injection ok1 with _ e; omega
    have gneR : gk ≠ R := fun e => by rw [e, oR.out] at ok1; injection ok1 with e _; exact hx e.symm
    have HH : Hid (s.has i m = true) := hh
    clear cf hh
    go_wp2_with fail
    go_quiet (fail)
    obtain ⟨w2, hw2⟩ : ∃ w2, w2 = w1.drewN nq := ⟨_, rfl⟩
    have D1 : w2.cell? ⟨C, i * 3 + 1, none⟩ = some (.slice (some ⟨gk, 0, none⟩) (s.ch i).length ck) := by rw [hw2]; exact d1
    have D2 : w2.cell? ⟨C, i * 3 + 2, none⟩ = some (.slice a2 (s.fr i).length b2) := by rw [hw2]; exact d2
    have Z2 : w2.frozen? ⟨C, i * 3 + 2, none⟩ = false := by rw [hw2]; exact z2
    have K0 : w2.cell? ⟨gk, m * 2, none⟩ = some (.bool true) := by rw [hw2]; exact k0
    have K1 : w2.cell? ⟨gk, m * 2 + 1, none⟩ = some (.string d) := by rw [hw2]; exact k1
    have ZK0 : w2.frozen? ⟨gk, m * 2, none⟩ = false := by rw [hw2]; exact zk0
    have ZK1 : w2.frozen? ⟨gk, m * 2 + 1, none⟩ = false := by rw [hw2]; exact zk1
    have R1 : w2.cell? ⟨R, 1, none⟩ = some (.int .i64 (m : Int)) := by rw [hw2]; exact r1'
    have I2 : Hid (IsSlab w2 oo x S s) := by rw [hw2]; exact I1.out.below (below_drewN (Below.refl _ _) nq)
    have HC2 : Hid (ClsF w2 oo x C s kv fv) := by rw [hw2]; exact HC.out.fr (by omega) (Fr.drewN (fun _ => False) oo w1 nq) (fun _ x => x)
    have F2 : Hid (∀ T, Fr T o oo w w2) := fun T => by rw [hw2]; exact (F1.out T).trans (Fr.drewN T oo w1 nq)
    have C3 : Hid (w2.cell? ⟨S, 3, none⟩ = some (.slice (some ⟨C, 0, none⟩) s.n cap)) := by rw [hw2]; exact c3
    rw [← hw2]
    clear hw2 d1 d2 z2 k0 k1 zk0 zk1 r0' r1' I1 HC F1 c3 hRw1
    obtain ⟨V, hV⟩ : ∃ V, V = (w2.setCell ⟨gk, m * 2, none⟩ (.bool false)).setCell ⟨gk, m * 2 + 1, none⟩ (.string ⟨#[]⟩) := ⟨_, rfl⟩
    have VC : ∀ j, V.cell? ⟨C, j, none⟩ = w2.cell? ⟨C, j, none⟩ := fun j => by
      rw [hV, World.cell?_setCell_other _ _ _ _ (fun e => gneC (by injection e)), World.cell?_setCell_other _ _ _ _ (fun e => gneC (by injection e))]
    have VR : V.cell? ⟨R, 1, none⟩ = some (.int .i64 (m : Int)) := by
      rw [hV, World.cell?_setCell_other _ _ _ _ (fun e => gneR (by injection e)), World.cell?_setCell_other _ _ _ _ (fun e => gneR (by injection e))]; exact R1
    have VD1 : V.cell? ⟨C, i * 3 + 1, none⟩ = some (.slice (some ⟨gk, 0, none⟩) (s.ch i).length ck) := (VC _).trans D1
    have VD2 : V.cell? ⟨C, i * 3 + 2, none⟩ = some (.slice a2 (s.fr i).length b2) := (VC _).trans D2
    have VZ : ∀ j, V.frozen? ⟨C, j, none⟩ = w2.frozen? ⟨C, j, none⟩ := fun j => by rw [hV, World.frozen?_setCell, World.frozen?_setCell]
    have VF : Fr (fun t => t = (x, 2 * i + 2)) oo oo w2 V := by rw [hV]; exact (Fr.set (a := ⟨gk, m * 2, none⟩) ok1 _).trans (Fr.set (a := ⟨gk, m * 2 + 1, none⟩) ok1 _)
    have OK1 : OwnK V oo (x, 2 * i + 2) 2 (.slice (some ⟨gk, 0, none⟩) (s.ch i).length ck) (s.ch i).length (ckc ((s.ch i).set m noChunk)) := by
      have kk := HC2.out.kk i hi
      rw [e1] at kk
      have := (kk.set (m * 2) (.bool false) rfl (by omega)).set (m * 2 + 1) (.string ⟨#[]⟩) rfl (by omega)
      rw [hV, ← ckc_set (s.ch i) m noChunk]; exact this
    have OF1 : OwnK V oo (x, 2 * i + 3) 1 (.slice a2 (s.fr i).length b2) (s.fr i).length (frc (s.fr i)) := by
      have ff := (HC2.out.ff i hi).fr VF (fun e => by injection e with _ e; omega)
      rw [e2] at ff; exact ff
    have OF2 := (OF1.fr (Fr.drew1 (fun _ => False) oo V) (fun x => x)).fr (Fr.drew1 (fun _ => False) oo V.drew) (fun x => x)
    obtain ⟨v3, w3, o3, hrun, O3, F3⟩ := app_one 22 3 (.int .i64 0) 8 under22 info3 (by kernel_rfl) OF2 [.int .i64 ((m : Nat) : Int)] rfl (fun x hx => by simp at hx; subst hx; rfl) (by omega) (by omega)
    obtain ⟨a3, b3, rfl, _⟩ := O3.form
    have HVC : Hid (∀ j, V.cell? ⟨C, j, none⟩ = w2.cell? ⟨C, j, none⟩) := VC
    have HVZ : Hid (∀ j, V.frozen? ⟨C, j, none⟩ = w2.frozen? ⟨C, j, none⟩) := VZ
    have VZ2 : V.frozen? ⟨C, i * 3 + 2, none⟩ = false := (VZ _).trans Z2
    clear VC VZ Z2
    have HV : Hid (V = (w2.setCell ⟨gk, m * 2, none⟩ (.bool false)).setCell ⟨gk, m * 2 + 1, none⟩ (.string ⟨#[]⟩)) := hV
    have KP : ((w2.setCell ⟨gk, m * 2, none⟩ (.bool false)).setCell ⟨gk, m * 2 + 1, none⟩ (.string ⟨#[]⟩)).cell? ⟨C, i * 3 + 1, none⟩ = some (.slice (some ⟨gk, 0, none⟩) (s.ch i).length ck) ∧ ((w2.setCell ⟨gk, m * 2, none⟩ (.bool false)).setCell ⟨gk, m * 2 + 1, none⟩ (.string ⟨#[]⟩)).cell? ⟨R, 1, none⟩ = some (.int .i64 (m : Int)) := by rw [← hV]; exact ⟨VD1, VR⟩
    go_wp2_with fail
    go_region_held3 (fun w' => w'.cell? ⟨C, i * 3 + 1, none⟩ = some (.slice (some ⟨gk, 0, none⟩) (s.ch i).length ck) ∧ w'.cell? ⟨R, 1, none⟩ = some (.int .i64 (m : Int)))
      (first | exact ⟨D1, R1⟩ | exact KP) (fail)
    rw [← hV]
    clear hV D1 D2 K0 K1 ZK0 ZK1 R1 KP
    go_wp2_with fail
    have hCV : C < V.heap.size := World.block_lt_of_cell? _ _ VD1
    have nC : ¬ (oo C = (x, 2 * i + 3)) := by rw [oC]; intro e; injection e with _ e; omega
    have nR : ¬ (oo R = (x, 2 * i + 3)) := by rw [oR.out]; intro e; injection e with e _; exact hx e.symm
    have VN : Below V.heap.size V (V.alloc (.cells #[.int .i64 (m : Int)] 3)) := (Below.refl _ _).alloc (Nat.le_refl _) _
    have AD2 := cell_up VN VD2
    have AR := cell_up VN VR
    have W2 := F3.cell VD2 nC
    have WR := F3.cell VR nR
    have WZ2 : w3.frozen? ⟨C, i * 3 + 2, none⟩ = false := (F3.frozen (off := i * 3 + 2) hCV nC).trans VZ2
    have DONE : Hid (FreeP w o x S s i m (w3.setCell ⟨C, i * 3 + 2, none⟩ (.slice a3 ((s.fr i).length + 1) b3))) := by
      have F3' : Fr (fun t => t = (x, 2 * i + 3)) oo o3 V w3 := ((Fr.drew1 _ oo V).trans (Fr.drew1 _ oo V.drew)).trans F3
      have oC3 : o3 C = (x, 1) := (F3'.lab C hCV).trans oC
      have FS : Fr (fun t => t = (x, 1)) o3 o3 w3 (w3.setCell ⟨C, i * 3 + 2, none⟩ (.slice a3 ((s.fr i).length + 1) b3)) := Fr.set (a := ⟨C, i * 3 + 2, none⟩) oC3 _
      have TT : Fr (fun t => t = (x, 1) ∨ t = (x, 2 * i + 2) ∨ t = (x, 2 * i + 3)) oo o3 w2 (w3.setCell ⟨C, i * 3 + 2, none⟩ (.slice a3 ((s.fr i).length + 1) b3)) :=
        ((VF.mono (fun t h => .inr (.inl h))).trans (F3'.mono (fun t h => .inr (.inr h)))).trans (FS.mono (fun t h => .inl h))
      have oS : oo S = (x, 0) := I2.out.oS
      have nS : ¬ (oo S = (x, 1) ∨ oo S = (x, 2 * i + 2) ∨ oo S = (x, 2 * i + 3)) := by rw [oS]; intro e; rcases e with e | e | e <;> injection e with _ e <;> omega
      have hSw : S < w2.heap.size := World.block_lt_of_cell? _ _ I2.out.c0
      have hC2 : C < w2.heap.size := World.block_lt_of_cell? _ _ (HC2.out.c0 i hi)
      have cf : ClsF (w3.setCell ⟨C, i * 3 + 2, none⟩ (.slice a3 ((s.fr i).length + 1) b3)) o3 x C (s.free i m) (upd kv i (.slice (some ⟨gk, 0, none⟩) (s.ch i).length ck)) (upd fv i (.slice a3 ((s.fr i).length + 1) b3)) := by
        rw [HF.out]
        refine HC2.out.turn (i := i) hi rfl (TT.lab C hC2) (fun j e => upd_other _ _ _ e) (fun j e => upd_other _ _ _ e) (fun j j1 j2 => ?_) (fun j => ?_) ?_ (World.cell?_setCell_same _ _ _ W2) ?_ ?_ TT
        · rw [World.cell?_setCell_other _ _ _ _ (fun e => j2 (by injection e with _ e; exact e.symm)), World.cell?_of_block (a := ⟨C, j, none⟩) (F3'.block C hCV nC)]; exact HVC.out j
        · rw [World.frozen?_setCell, World.frozen?_of_block (a := ⟨C, j, none⟩) (F3'.block C hCV nC)]; exact HVZ.out j
        · rw [World.cell?_setCell_other _ _ _ _ (fun e => by injection e with _ e; omega), World.cell?_of_block (a := ⟨C, i * 3 + 1, none⟩) (F3'.block C hCV nC)]; exact VD1
        · show OwnK _ _ _ _ _ (upd s.ch i _ i).length (ckc (upd s.ch i _ i))
          rw [upd_same, List.length_set]
          exact (OK1.fr F3' (fun e => by injection e with _ e; omega)).fr FS (fun e => by injection e with _ e; omega)
        · show OwnK _ _ _ _ _ (upd s.fr i _ i).length (frc (upd s.fr i _ i))
          rw [upd_same, List.length_append, frc_append]
          exact O3.fr FS (fun e => by injection e with _ e; omega)
      refine ⟨o3, ⟨HOK.out, (TT.lab S hSw).trans oS, ?_, ?_, ?_, (TT.frozen hSw nS).trans I2.out.f2, C, cap, _, _, ?_, ?_, cf⟩, (F2.out _).trans (TT.mono (fun t e => by rcases e with rfl | rfl | rfl <;> rfl))⟩
      · rw [(s.free_same _ _).2.2.1]; exact TT.cell I2.out.c0 nS
      · rw [(s.free_same _ _).2.1]; exact TT.cell I2.out.c1 nS
      · rw [(s.free_same _ _).2.2.2]; exact TT.cell I2.out.c2 nS
      · rw [(s.free_same _ _).1]; exact hcap
      · rw [(s.free_same _ _).1]; exact TT.cell C3.out nS
    have HRES : Hid (s.has i m = true) := HH
    clear AD2 WR VF OK1 OF1 OF2 F3 O3 HVC HVZ HC2 I2 F2 C3 HOK HF
    go_region_law (refine step_app rfl (.tmp 29) (.tmp 32) 22 22 rfl _ _ _ rfl rfl hrun ?_)
    all_goals
      go_wp2_with fail
      go_ret
      exact ⟨by rw [HRES.out]; rfl, DONE.out⟩
  · have hh' : s.has c k = false := by simpa using hh
    have HF : Hid (s.free c k = s) := by show _ = _; unfold St.free; rw [if_neg hh]
    rw [hh']
    have HH : Hid (s.has c k = false) := hh'
    clear hh hh'
    go_wp2_with fail
    go_ret
    exact ⟨by rw [HH.out]; rfl, oo, by rw [HF.out]; exact I1.out, F1.out _⟩
end Go.Proofs.YtfinaichajbnkaaGreatDoor


namespace Go.Proofs.YtfinaichajbnkaaGreatDoor
open Go.RowKit

/-- The cells of classes without pages. -/
def ncl (j : Nat) : List Value := (List.range j).flatMap fun i => [.int .i64 ((sz i : Nat) : Int), .slice none 0 0, .slice none 0 0]
theorem ncl_succ (j : Nat) : ncl (j + 1) = ncl j ++ [.int .i64 ((sz j : Nat) : Int), .slice none 0 0, .slice none 0 0] := by simp [ncl, List.range_succ]
theorem ncl_length : ∀ j, (ncl j).length = j * 3
  | 0 => rfl
  | j + 1 => by rw [ncl_succ, List.length_append, ncl_length j]; simp; omega
theorem ncl_at : ∀ (n i : Nat), i < n → (ncl n)[i * 3]? = some (.int .i64 ((sz i : Nat) : Int)) ∧ (ncl n)[i * 3 + 1]? = some (.slice none 0 0) ∧ (ncl n)[i * 3 + 2]? = some (.slice none 0 0)
  | 0, i, h => by omega
  | n + 1, i, h => by
    rw [ncl_succ]
    have hl := ncl_length n
    by_cases e : i = n
    · subst e
      rw [List.getElem?_append_right (by omega), List.getElem?_append_right (by omega), List.getElem?_append_right (by omega), hl]
      rw [show i * 3 - i * 3 = 0 by omega, show i * 3 + 1 - i * 3 = 1 by omega, show i * 3 + 2 - i * 3 = 2 by omega]
      exact ⟨rfl, rfl, rfl⟩
    · rw [List.getElem?_append_left (by omega), List.getElem?_append_left (by omega), List.getElem?_append_left (by omega)]
      exact ncl_at n i (by omega)
theorem under71 : Tryz.prog.underlying 71 = some (.slice 76) := by kernel_rfl
theorem info76 : (Tryz.prog.info? 76).map (fun i => (i.zero, i.size, i.bytes)) = some (some (.agg #[.int .i64 0, .slice none 0 0, .slice none 0 0]), 3, 56) := by kernel_rfl
/-- What turns marks that none of the old blocks has turns no old block. -/
theorem Fr.fresh {T U : Nat × Nat → Prop} {o1 o2 o3 : (Nat → Nat × Nat)} {w1 w2 w3 : World} (h : Fr U o1 o2 w1 w2) (k : Fr T o2 o3 w2 w3) (hf : ∀ b, b < w1.heap.size → ¬ T (o1 b)) : Fr U o1 o3 w1 w3 :=
  ⟨k.os.trans h.os, k.tape.trans h.tape, k.output.trans h.output, Nat.le_trans h.size k.size,
    fun b hb => (k.lab b (Nat.lt_of_lt_of_le hb h.size)).trans (h.lab b hb),
    fun b hb ht => (k.block b (Nat.lt_of_lt_of_le hb h.size) (by rw [h.lab b hb]; exact hf b hb)).trans (h.block b hb ht)⟩
/-- Are the arguments of New right? -/
def rightN (pages page : Int) : Prop := 1 ≤ pages ∧ pages ≤ 64 ∧ 64 ≤ page ∧ page ≤ 65536
set_option maxRecDepth 100000 in
theorem new_no (pages page : Int) (h : ¬ rightN pages page) (w : World) :
    Calls Tryz.prog 19 #[.int .i64 pages, .int .i64 page] w fun e w' => e = .returned (.tuple #[.pointer none, .int .i64 1]) ∧ w = w' := by
  have hc : pages < 1 ∨ (1 ≤ pages ∧ 64 < pages) ∨ (1 ≤ pages ∧ pages ≤ 64 ∧ page < 64) ∨ (1 ≤ pages ∧ pages ≤ 64 ∧ 64 ≤ page ∧ 65536 < page) := by unfold rightN at h; omega
  clear h
  rcases hc with h1 | ⟨h1, h2⟩ | ⟨h1, h2, h3⟩ | ⟨h1, h2, h3, h4⟩
  · go_enter Tryz.func19, Tryz.ntmps19
    go_wp2_with fail
    go_ret2
    exact ⟨rfl, rfl⟩
  · have j1 : decide (pages < 1) = false := by simp; omega
    go_enter Tryz.func19, Tryz.ntmps19
    go_wp2_with fail
    go_ret2
    exact ⟨rfl, rfl⟩
  · have j1 : decide (pages < 1) = false := by simp; omega
    have j2 : decide (64 < pages) = false := by simp; omega
    go_enter Tryz.func19, Tryz.ntmps19
    go_wp2_with fail
    go_ret2
    exact ⟨rfl, rfl⟩
  · have j1 : decide (pages < 1) = false := by simp; omega
    have j2 : decide (64 < pages) = false := by simp; omega
    have j3 : decide (page < 64) = false := by simp; omega
    go_enter Tryz.func19, Tryz.ntmps19
    go_wp2_with fail
    go_ret2
    exact ⟨rfl, rfl⟩
/-- What New leaves. -/
def NewP (w : World) (o : (Nat → Nat × Nat)) (x pages page : Nat) (w' : World) (S : Nat) : Prop := ∃ o' n, IsSlab w' o' x S (St.new pages page n) ∧ Fr (fun _ => False) o o' w w'
set_option maxRecDepth 100000 in
set_option maxHeartbeats 1000000 in
theorem new_yes (x pages page : Nat) (P Q : Int) (hP : P = (pages : Int)) (hQ : Q = (page : Int)) (p1 : 1 ≤ pages) (p2 : pages ≤ 64) (g1 : 64 ≤ page) (g2 : page ≤ 65536) (w : World) (o : (Nat → Nat × Nat)) (hfr : ∀ b, b < w.heap.size → (o b).1 ≠ x) :
    Calls Tryz.prog 19 #[.int .i64 P, .int .i64 Q] w fun e w' => ∃ S, e = .returned (.tuple #[.pointer (some ⟨S, 0, none⟩), .int .i64 0]) ∧ NewP w o x pages page w' S := by
  subst hP hQ
  have HFR : Hid (∀ b, b < w.heap.size → (o b).1 ≠ x) := hfr
  clear hfr
  have j1 : decide ((pages : Int) < 1) = false := by simp; omega
  have j2 : decide ((64 : Int) < (pages : Int)) = false := by simp; omega
  have j3 : decide ((page : Int) < 64) = false := by simp; omega
  have j4 : decide ((65536 : Int) < (page : Int)) = false := by simp; omega
  go_enter Tryz.func19, Tryz.ntmps19
  go_wp2_with fail
  obtain ⟨S, hS⟩ : ∃ S, S = w.heap.size := ⟨_, rfl⟩
  obtain ⟨w0, hw0⟩ : ∃ w0, w0 = w.alloc (.cells #[.int .i64 (page : Int), .int .i64 (pages : Int), .int .i64 (pages : Int), .slice none 0 0] 73) := ⟨_, rfl⟩
  have F0 : Hid (Fr (fun _ => False) o (lab o S (x, 0)) w w0) := by rw [hw0, hS]; exact Fr.new _ o w _ _
  have oS : Hid (lab o S (x, 0) S = (x, 0)) := lab_same _ _ _
  have s0 : Hid (w0.cell? ⟨S, 0, none⟩ = some (.int .i64 (page : Int))) := by show _ = _; rw [hw0, hS, World.cell?_alloc_new]; rfl
  have s1 : Hid (w0.cell? ⟨S, 1, none⟩ = some (.int .i64 (pages : Int))) := by show _ = _; rw [hw0, hS, World.cell?_alloc_new]; rfl
  have s2 : Hid (w0.cell? ⟨S, 2, none⟩ = some (.int .i64 (pages : Int))) := by show _ = _; rw [hw0, hS, World.cell?_alloc_new]; rfl
  have s3 : Hid (w0.cell? ⟨S, 3, none⟩ = some (.slice none 0 0)) := by show _ = _; rw [hw0, hS, World.cell?_alloc_new]; rfl
  have sz' : Hid (∀ j, w0.frozen? ⟨S, j, none⟩ = false) := fun j => by rw [hw0, hS]; exact World.frozen?_alloc_new _ _ _ _
  have HS : Hid (S = w.heap.size) := hS
  rw [← hw0, ← hS]
  clear hw0 hS
  go_loopw [7] (fun y wr => ∃ (j : Nat) (o1 : (Nat → Nat × Nat)) (a : Option Addr) (c : Nat), y = .int .i64 ((sz j : Nat) : Int) ∧ j ≤ 11 ∧ sz j ≤ 131072 ∧ Hid (∀ i, i < j → sz i ≤ page) ∧ Hid (OwnK wr o1 (x, 1) 3 (.slice a j c) j (ncl j)) ∧ Hid (o1 S = (x, 0)) ∧
    Hid (wr.cell? ⟨S, 0, none⟩ = some (.int .i64 (page : Int))) ∧ Hid (wr.cell? ⟨S, 1, none⟩ = some (.int .i64 (pages : Int))) ∧ Hid (wr.cell? ⟨S, 2, none⟩ = some (.int .i64 (pages : Int))) ∧ Hid (wr.cell? ⟨S, 3, none⟩ = some (.slice a j c)) ∧ Hid (∀ j, wr.frozen? ⟨S, j, none⟩ = false) ∧ Hid (Fr (fun _ => False) o o1 w wr)) (fun y _ => 200000 - (intOf y).toNat)
  case atStart => exact ⟨0, lab o S (x, 0), none, 0, rfl, by omega, by decide, fun i hi => by omega, OwnK.nil _ _ _ _, oS, s0, s1, s2, s3, sz', F0⟩
  case round =>
    clear s0 s1 s2 s3 sz' F0 oS
    obtain ⟨j, o1, a, c, rfl, hj, hsz, HJ, OK, oS, S0, S1, S2, S3, SZ, FF⟩ := hrel
    have hsp := sz_pos j
    by_cases hle : sz j ≤ page
    · have k1 : ((sz j : Nat) : Int) ≤ (page : Int) := by omega
      obtain ⟨v3, w3, o3, hrun, O3, F3⟩ := app_one 71 76 (.agg #[.int .i64 0, .slice none 0 0, .slice none 0 0]) 56 under71 info76 (by kernel_rfl) OK.out [.int .i64 ((sz j : Nat) : Int), .slice none 0 0, .slice none 0 0] rfl (fun x hx => by simp at hx; rcases hx with rfl | rfl | rfl <;> rfl) (by omega) (by omega)
      obtain ⟨a3, b3, rfl, _⟩ := O3.form
      have s3 := S3.out
      have sz3 := SZ.out 3
      have hSl : S < wr.heap.size := World.block_lt_of_cell? _ _ s3
      have nS : ¬ (o1 S = (x, 1)) := by rw [oS.out]; intro e; injection e with _ e; cases e
      have t3 := F3.cell s3 nS
      have tz3 := (F3.frozen (off := 3) hSl nS).trans sz3
      have HF3 : Hid (Fr (fun t => t = (x, 1)) o1 o3 wr w3) := F3
      have HO3 : Hid (OwnK w3 o3 (x, 1) 3 (.slice a3 (j + 1) b3) (j + 1) (ncl (j + 1))) := by show OwnK _ _ _ _ _ _ _; rw [ncl_succ]; exact O3
      clear F3 O3
      go_wp2_with (at_builtin; refine wpList_append_run rfl (.tmp 36) (.tmp 39) 71 71 rfl _ _ _ rfl rfl hrun ?_)
      have oS3 : o3 S = (x, 0) := (HF3.out.lab S hSl).trans oS.out
      have e2 : sz (j + 1) = 2 * sz j := sz_succ j
      have FS : Fr (fun t => t = (x, 0)) o3 o3 w3 (w3.setCell ⟨S, 3, none⟩ (.slice a3 (j + 1) b3)) := Fr.set (a := ⟨S, 3, none⟩) oS3 _
      have hj10 : j < 11 := by
        refine Nat.lt_of_not_le fun h => ?_
        have := sz_mono h
        have e : sz 11 = 131072 := rfl
        omega
      have ne : ∀ k, k ≠ 3 → (w3.setCell ⟨S, 3, none⟩ (.slice a3 (j + 1) b3)).cell? ⟨S, k, none⟩ = w3.cell? ⟨S, k, none⟩ := fun k hk => World.cell?_setCell_other _ _ _ _ (fun e => hk (by injection e with _ e; exact e.symm))
      refine ⟨⟨j + 1, o3, a3, b3, by congr 1; omega, by omega, by omega, fun i hi => ?_, HO3.out.fr FS (fun e => by injection e with _ e; cases e), oS3, ?_, ?_, ?_, World.cell?_setCell_same _ _ _ t3, fun k => ?_, ?_⟩, by simp [intOf]; omega⟩
      · by_cases e : i = j
        · subst e; exact hle
        · exact HJ.out i (by omega)
      · exact (ne 0 (by decide)).trans (HF3.out.cell S0.out nS)
      · exact (ne 1 (by decide)).trans (HF3.out.cell S1.out nS)
      · exact (ne 2 (by decide)).trans (HF3.out.cell S2.out nS)
      · rw [World.frozen?_setCell]; exact (HF3.out.frozen hSl nS).trans (SZ.out k)
      · exact (FF.out.fresh HF3.out (fun b hb e => HFR.out b hb (by rw [e]))).setNew (a := ⟨S, 3, none⟩) (by rw [← HS.out]; exact Nat.le_refl _) _
    · have k1 : decide (((sz j : Nat) : Int) ≤ (page : Int)) = false := by simp; omega
      go_wp2_with fail
      go_ret2
      have hn : ∀ i, i < j ↔ sz i ≤ page := fun i => ⟨HJ.out i, fun h => Nat.lt_of_not_le fun h2 => by have := sz_mono h2; omega⟩
      have j0 : 0 < j := (hn 0).2 (by have e : sz 0 = 64 := rfl; omega)
      obtain ⟨g, cap, e, h2, h3, h4, h5, h6, h7⟩ := OK.out.there j0
      refine ⟨S, rfl, o1, j, ⟨Ok.new p1 p2 g1 g2 hn, oS.out, S0.out, S1.out, S2.out, SZ.out 2, g, cap, fun _ => .slice none 0 0, fun _ => .slice none 0 0, h4, by show _ = some (Value.slice (some ⟨g, 0, none⟩) j cap); rw [← e]; exact S3.out, ?_⟩, FF.out⟩
      exact ⟨h2, fun i hi => h6 _ _ (ncl_at j i hi).1, fun i hi => h6 _ _ (ncl_at j i hi).2.1, fun i hi => h6 _ _ (ncl_at j i hi).2.2, fun i hi => (h7 _ (by have hi : i < j := hi; omega)).2, fun i hi => (h7 _ (by have hi : i < j := hi; omega)).2, fun i hi => OwnK.nil _ _ _ _, fun i hi => OwnK.nil _ _ _ _⟩
end Go.Proofs.YtfinaichajbnkaaGreatDoor


namespace Go.Proofs.YtfinaichajbnkaaGreatDoor
open Go.RowKit

theorem under9 : Tryz.prog.underlying 9 = some .string := by kernel_rfl
theorem under5 : Tryz.prog.underlying 5 = some (.int .u8) := by kernel_rfl
theorem under95 : Tryz.prog.underlying 95 = some (.slice 5) := by kernel_rfl
theorem size_len (s : ByteArray) : s.data.toList.length = s.size := Array.length_toList
/-- The byte at a place; nought behind the end. -/
def bt (s : ByteArray) (i : Nat) : Nat := (s.data.toList.getD i 0).toNat
theorem bt_lt (s : ByteArray) (i : Nat) : bt s i < 256 := (s.data.toList.getD i 0).toNat_lt
/-- A string out of numbers. -/
def mkS (f : Nat → Nat) (n : Nat) : ByteArray := ⟨((List.range n).map fun i => UInt8.ofNat (f i)).toArray⟩
theorem mkS_size (f : Nat → Nat) (n : Nat) : (mkS f n).size = n := by simp [mkS, ByteArray.size]
theorem bt_mkS {f : Nat → Nat} {n i : Nat} (hf : f i < 256) (hi : i < n) : bt (mkS f n) i = f i := by
  unfold bt mkS
  simp [List.getD_eq_getElem?_getD, hi]
  omega
theorem str_ext {s t : ByteArray} (h : s.size = t.size) (h2 : ∀ i, i < s.size → bt s i = bt t i) : s = t := by
  apply ByteArray.ext
  apply Array.toList_inj.1
  apply List.ext_getElem?
  intro i
  by_cases hi : i < s.size
  · have e := h2 i hi
    unfold bt at e
    have h1 : i < s.data.toList.length := by rw [size_len]; exact hi
    have h3 : i < t.data.toList.length := by rw [size_len]; omega
    rw [List.getD_eq_getElem?_getD, List.getD_eq_getElem?_getD, List.getElem?_eq_getElem h1, List.getElem?_eq_getElem h3] at e
    rw [List.getElem?_eq_getElem h1, List.getElem?_eq_getElem h3]
    exact congrArg some (UInt8.toNat_inj.1 e)
  · rw [List.getElem?_eq_none (by rw [size_len]; omega), List.getElem?_eq_none (by rw [size_len]; omega)]
theorem str_at (s : ByteArray) (q : Nat) (h : q < s.size) (w : World) : (Instr.index 9 (.string s) (.int .i64 (q : Int))).run Tryz.prog w = .ok (.int .u8 ((bt s q : Nat) : Int)) w := by
  rw [run_index_string w 9 s .i64 (q : Int) under9, dif_pos ⟨by omega, by omega⟩]
  have h1 : q < s.data.toList.length := by rw [size_len]; exact h
  have e : (s[((q : Int)).toNat]'(by omega)).toNat = bt s q := by
    unfold bt
    rw [List.getD_eq_getElem?_getD, List.getElem?_eq_getElem h1]
    simp only [Int.toNat_natCast, Option.getD_some]
    rfl
  rw [e]

theorem str_beq (a b : ByteArray) : (a.toList == b.toList) = decide (a = b) := by
  by_cases h : a = b
  · subst h; simp
  · rw [decide_eq_false h]
    exact beq_eq_false_iff_ne.2 (fun e => h (by
      rw [ByteArray.toList_eq, ByteArray.toList_eq] at e
      exact ByteArray.ext (Array.toList_inj.1 e)))
/-- One byte more. -/
def hx (a b : Int) : Int := bits .xor .u32 a b * 16777619 % 4294967296
def hsN (s : ByteArray) : Nat → Int
  | 0 => 2166136261
  | i + 1 => hx (hsN s i) ((bt s i : Nat) : Int)
/-- A key's hash. -/
def hs (s : ByteArray) : Int := hsN s s.size
theorem hx_bd (a b : Int) : 0 ≤ hx a b ∧ hx a b < 4294967296 := by unfold hx; omega
theorem hsN_bd (s : ByteArray) : ∀ i, 0 ≤ hsN s i ∧ hsN s i < 4294967296
  | 0 => by simp [hsN]
  | i + 1 => hx_bd _ _
theorem hs_bd (s : ByteArray) : 0 ≤ hs s ∧ hs s < 4294967296 := hsN_bd s _
theorem hsN_congr {s t : ByteArray} : ∀ {n : Nat}, (∀ i, i < n → bt s i = bt t i) → hsN s n = hsN t n
  | 0, _ => rfl
  | n + 1, h => by show hx _ _ = hx _ _; rw [hsN_congr (n := n) (fun i hi => h i (by omega)), h n (by omega)]
set_option maxRecDepth 100000 in
set_option maxHeartbeats 1000000 in
theorem hash_any (k : ByteArray) (hk : k.size ≤ 140737488355328) (w : World) : Calls Tryz.prog 109 #[.string k] w fun e w' => e = .returned (.int .u32 (hs k)) ∧ w = w' := by
  go_enter Tryz.func109, Tryz.ntmps109
  go_wp2_with fail
  go_loopw [3, 7] (fun h i wr => ∃ j : Nat, j ≤ k.size ∧ i = .int .i64 (j : Int) ∧ h = .int .u32 (hsN k j) ∧ w = wr) (fun _ i _ => k.size - (intOf i).toNat)
  case atStart => exact ⟨0, by omega, rfl, rfl, rfl⟩
  case round =>
    obtain ⟨j, hj, rfl, rfl, rfl⟩ := hrel
    by_cases hlt : j < k.size
    · have hi1 : (j : Int) < (k.size : Int) := by omega
      have ix := str_at k j hlt
      go_wp2_with fail
      have hb := bt_lt k j
      refine ⟨⟨j + 1, by omega, by go_num, ?_, trivial⟩, by simp [intOf]; omega⟩
      rw [show ((bt k j : Nat) : Int) % 4294967296 = ((bt k j : Nat) : Int) by omega]; rfl
    · go_wp2_with fail
      go_ret
      exact ⟨by rw [show j = k.size by omega]; rfl, rfl⟩
end Go.Proofs.YtfinaichajbnkaaGreatDoor
