/-
  ALLOC of a slab.
-/
import Derived.Test.YtfinaichajbnkaaGreatDoorTurn
namespace Go.Proofs.YtfinaichajbnkaaGreatDoor
open Go.RowKit

/-- What Alloc answers, as a value. -/
def ansV (a : Nat × Nat × Nat) : Value := .tuple #[.agg #[.int .i64 ((a.1 : Nat) : Int), .int .i64 ((a.2.1 : Nat) : Int)], .int .i64 ((a.2.2 : Nat) : Int)]
/-- What Alloc leaves. -/
def AllocP (w : World) (o : (Nat → Nat × Nat)) (x S : Nat) (s : St) (d : ByteArray) (w' : World) : Prop := ∃ o', IsSlab w' o' x S (s.alloc d).2 ∧ Fr (fun t => t.1 = x) o o' w w'
theorem two_cells {w : World} {R : Nat} {u0 u1 : Value} (r0 : w.cell? ⟨R, 0, none⟩ = some u0) (r1 : w.cell? ⟨R, 1, none⟩ = some u1) (a b : Value) : (w.setCell ⟨R, 0, none⟩ a).cell? ⟨R, 0, none⟩ = some a ∧ ((w.setCell ⟨R, 0, none⟩ a).setCell ⟨R, 1, none⟩ b).cell? ⟨R, 1, none⟩ = some b :=
  ⟨World.cell?_setCell_same _ _ _ r0, World.cell?_setCell_same _ _ _ (by rw [World.cell?_setCell_other _ _ _ _ (fun e => by injection e with _ e; cases e)]; exact r1)⟩
set_option maxRecDepth 100000 in
set_option maxHeartbeats 400000 in
theorem alloc_any (x S : Nat) (hx : x ≠ 0) (s : St) (d : ByteArray) (hd : d.size ≤ 281474976710656) (w : World) (o : (Nat → Nat × Nat)) (h : IsSlab w o x S s) :
    Calls Tryz.prog 84 #[.pointer (some ⟨S, 0, none⟩), .string d] w fun e w' => e = .returned (ansV (s.alloc d).1) ∧ AllocP w o x S s d w' := by
  obtain ⟨R, hR⟩ : ∃ R, R = w.heap.size := ⟨_, rfl⟩
  have HR : Hid (R = w.heap.size) := hR
  obtain ⟨w0, hw0⟩ : ∃ w0, w0 = w.alloc (.cells #[.int .i64 0, .int .i64 0] 56) := ⟨_, rfl⟩
  have F0 : Hid (∀ T, Fr T o (lab o R (0, 0)) w w0) := fun T => by rw [hw0, hR]; exact Fr.new T o w _ _
  have I0 : Hid (IsSlab w0 (lab o R (0, 0)) x S s) := h.fr (F0.out (fun _ => False)) (fun _ x => x)
  have r0 : w0.cell? ⟨R, 0, none⟩ = some (.int .i64 0) := by rw [hw0, hR, World.cell?_alloc_new]; rfl
  have r1 : w0.cell? ⟨R, 1, none⟩ = some (.int .i64 0) := by rw [hw0, hR, World.cell?_alloc_new]; rfl
  have rz : ∀ j, w0.frozen? ⟨R, j, none⟩ = false := fun j => by rw [hw0, hR]; exact World.frozen?_alloc_new _ _ _ _
  obtain ⟨oo, hoo⟩ : ∃ oo, oo = lab o R (0, 0) := ⟨_, rfl⟩
  have oR : Hid (oo R = (0, 0)) := by rw [hoo]; exact lab_same _ _ _
  rw [← hoo] at F0 I0
  have HS : Hid (IsSlab w o x S s) := h
  clear h hoo
  go_enter Tryz.func84, Tryz.ntmps84
  go_wp2_with fail
  rw [← hw0, ← hR]
  clear hw0 hR
  refine (class_any x S s d.size _ oo I0.out).mono ?_
  rintro e w1 ⟨r, rfl, hcls, B1⟩
  have I1 : Hid (IsSlab w1 oo x S s) := I0.out.below B1
  have F1 : Hid (∀ T, Fr T o oo w w1) := fun T => (F0.out T).trans (Fr.ofBelow T oo B1)
  have r0' := cell_up B1 r0
  have r1' := cell_up B1 r1
  have hRw : R < w0.heap.size := World.block_lt_of_cell? _ _ r0
  have rz0 := (B1.frozen (p := ⟨R, 0, none⟩) hRw).trans (rz 0)
  have rz1 := (B1.frozen (p := ⟨R, 1, none⟩) hRw).trans (rz 1)
  have hRw1 : Hid (R < w1.heap.size) := World.block_lt_of_cell? _ _ r0'
  clear r0 r1 rz F0 I0 B1 hRw
  rcases clsOf_is hcls with ⟨rfl, hc⟩ | ⟨i, rfl, hi, hc, hle⟩
  · have HA : Hid (s.alloc d = ((0, 0, 2), s)) := by show _ = _; unfold St.alloc; rw [hc]
    clear hcls
    go_wp2_with fail
    exact bodyPost_ret (v := ansV (s.alloc d).1) (by rw [HA.out]; simp [results, Tryz.results84, go_sem, ansV, (two_cells r0' r1' (.int .i64 0) (.int .i64 0)).1, (two_cells r0' r1' (.int .i64 0) (.int .i64 0)).2]) rfl ⟨rfl, oo, by
      rw [HA.out]; exact I1.out.fr ((Fr.set (T := fun t => t = (0, 0)) (a := ⟨R, 0, none⟩) oR.out _).trans (Fr.set (a := ⟨R, 1, none⟩) oR.out _)) (fun a e => hx (by injection e)), ((F1.out _).setNew (a := ⟨R, 0, none⟩) (by rw [← HR.out]; exact Nat.le_refl _) _).setNew (a := ⟨R, 1, none⟩) (by rw [← HR.out]; exact Nat.le_refl _) _⟩
  · obtain ⟨C, cap, kv, fv, hcap, c3, cf⟩ := I1.out.cl
    have HC : Hid (ClsF w1 oo x C s kv fv) := cf
    have hn := I1.out.ok.n2
    have d2 := cf.c2 i hi
    obtain ⟨a2, b2, e2, _⟩ := (cf.ff i hi).form
    rw [e2] at d2
    have hi1 : (i : Int) < (s.n : Int) := by omega
    have c2 := I1.out.c2
    have hl1 := I1.out.ok.l1
    have hp2 := I1.out.ok.p2
    have q1 := I1.out.ok.ch2 hi
    have q2 := I1.out.ok.fr2 hi
    have im1 : ((i : Int) == -1) = false := beq_eq_false_iff_ne.2 (by omega)
    clear cf hcls
    by_cases hf : s.fr i = []
    · have hf0 : (s.fr i).length = 0 := by rw [hf]; rfl
      rw [hf0] at d2
      by_cases hl : s.left = 0
      · have HA : Hid (s.alloc d = ((0, 0, 6), s)) := by show _ = _; unfold St.alloc; rw [hc]; simp only [hf, hl, if_true]
        rw [hl] at c2
        go_wp2_with fail
        exact bodyPost_ret (v := ansV (s.alloc d).1) (by rw [HA.out]; simp [results, Tryz.results84, go_sem, ansV, (two_cells r0' r1' (.int .i64 0) (.int .i64 0)).1, (two_cells r0' r1' (.int .i64 0) (.int .i64 0)).2]) rfl ⟨rfl, oo, by
          rw [HA.out]; exact I1.out.fr ((Fr.set (T := fun t => t = (0, 0)) (a := ⟨R, 0, none⟩) oR.out _).trans (Fr.set (a := ⟨R, 1, none⟩) oR.out _)) (fun a e => hx (by injection e)), ((F1.out _).setNew (a := ⟨R, 0, none⟩) (by rw [← HR.out]; exact Nat.le_refl _) _).setNew (a := ⟨R, 1, none⟩) (by rw [← HR.out]; exact Nat.le_refl _) _⟩
      · have HA : Hid (s.alloc d = ((i, (s.grow i).nxt i, 0), (s.grow i).take i d)) := by show _ = _; unfold St.alloc; rw [hc]; simp only [hf, hl, if_true, if_false]
        have j1 : ((s.left : Int) == 0) = false := by simp; omega
        have f2 := I1.out.f2
        have oS : oo S = (x, 0) := I1.out.oS
        have szp := sz_pos i
        have sz2 := I1.out.ok.sz2 hi
        have g2 := I1.out.ok.g2
        go_wp2_with fail
        obtain ⟨W, hW⟩ : ∃ W, W = w1.setCell ⟨S, 2, none⟩ (.int .i64 ((s.left : Int) - 1)) := ⟨_, rfl⟩
        have FW : Fr (fun t => t = (x, 0)) oo oo w1 W := by rw [hW]; exact Fr.set (a := ⟨S, 2, none⟩) oS _
        have cfW : Hid (ClsF W.drew oo x C s kv fv) := by
          have f : Fr (fun t => t = (x, 0)) oo oo w1 W.drew := FW.trans (Fr.drew1 _ oo W)
          have hC : ¬ (oo C = (x, 0)) := by rw [HC.out.oC]; intro e; injection e with _ e; cases e
          have hlt := World.block_lt_of_cell? _ _ (HC.out.c0 i hi)
          exact ⟨HC.out.oC, fun j hj => f.cell (HC.out.c0 j hj) hC, fun j hj => f.cell (HC.out.c1 j hj) hC, fun j hj => f.cell (HC.out.c2 j hj) hC, fun j hj => (f.frozen hlt hC).trans (HC.out.f1 j hj), fun j hj => (f.frozen hlt hC).trans (HC.out.f2 j hj), fun j hj => (HC.out.kk j hj).fr f (fun e => by injection e with _ e; omega), fun j hj => (HC.out.ff j hj).fr f (fun e => by injection e with _ e; omega)⟩
        have C0 : W.cell? ⟨S, 0, none⟩ = some (.int .i64 ((s.page : Nat) : Int)) := by rw [hW, World.cell?_setCell_other _ _ _ _ (fun e => by injection e with _ e; cases e)]; exact I1.out.c0
        have C1 : W.cell? ⟨S, 1, none⟩ = some (.int .i64 ((s.pages : Nat) : Int)) := by rw [hW, World.cell?_setCell_other _ _ _ _ (fun e => by injection e with _ e; cases e)]; exact I1.out.c1
        have C2 : W.cell? ⟨S, 2, none⟩ = some (.int .i64 (((s.left - 1 : Nat)) : Int)) := by rw [hW, World.cell?_setCell_same _ _ _ c2]; congr 2; omega
        have C3 : W.cell? ⟨S, 3, none⟩ = some (.slice (some ⟨C, 0, none⟩) s.n cap) := by rw [hW, World.cell?_setCell_other _ _ _ _ (fun e => by injection e with _ e; cases e)]; exact c3
        have Z2 : W.frozen? ⟨S, 2, none⟩ = false := by rw [hW, World.frozen?_setCell]; exact f2
        have E0 : W.cell? ⟨C, i * 3, none⟩ = some (.int .i64 ((sz i : Nat) : Int)) := cfW.out.c0 i hi
        have nR0 : ¬ (oo R = (x, 0)) := by rw [oR.out]; intro e; injection e with e _; exact hx e.symm
        have G0 := FW.cell r0' nR0
        have G1 := FW.cell r1' nR0
        have GZ0 := (FW.frozen (off := 0) hRw1.out nR0).trans rz0
        have GZ1 := (FW.frozen (off := 1) hRw1.out nR0).trans rz1
        have HFW : Hid (Fr (fun t => t.1 = x) o oo w W) := (F1.out _).trans (FW.mono (fun t e => by rw [e]))
        have HOK : Hid (Ok s) := I1.out.ok
        rw [← hW]
        have nS : ¬ (oo S = (x, 1) ∨ oo S = (x, 2 * i + 2) ∨ oo S = (x, 2 * i + 3)) := by rw [oS]; intro e; rcases e with e | e | e <;> injection e with _ e <;> omega
        have nR : ¬ (oo R = (x, 1) ∨ oo R = (x, 2 * i + 2) ∨ oo R = (x, 2 * i + 3)) := by rw [oR.out]; intro e; rcases e with e | e | e <;> injection e with e _ <;> exact hx e.symm
        have HNS : Hid (¬ (oo S = (x, 1) ∨ oo S = (x, 2 * i + 2) ∨ oo S = (x, 2 * i + 3))) := nS
        have HNR : Hid (¬ (oo R = (x, 1) ∨ oo R = (x, 2 * i + 2) ∨ oo R = (x, 2 * i + 3))) := nR
        have hRW : Hid (R < W.heap.size) := World.block_lt_of_cell? _ _ G0
        have hSW : Hid (S < W.heap.size) := World.block_lt_of_cell? _ _ C0
        have OS : Hid (oo S = (x, 0)) := oS
        obtain ⟨zi, hzi⟩ : ∃ zi : Int, zi = ((sz i : Nat) : Int) := ⟨_, rfl⟩
        obtain ⟨pi, hpi⟩ : ∃ pi : Int, pi = ((s.page : Nat) : Int) := ⟨_, rfl⟩
        obtain ⟨qi, hqi⟩ : ∃ qi : Int, qi = ((s.per i : Nat) : Int) := ⟨_, rfl⟩
        have q3 : IntKind.i64.wrap (pi.tdiv zi) = qi := by
          rw [Go.IntWalk.i64_quo _ _ (by omega), hpi, hzi, hqi]; unfold St.per; rw [Int.natCast_ediv]
        have q0 : (zi == 0) = false := beq_eq_false_iff_ne.2 (by omega)
        have q0' : ¬ (zi = 0) := by omega
        have HZ : Hid (zi = ((sz i : Nat) : Int)) := hzi
        have HP : Hid (pi = ((s.page : Nat) : Int)) := hpi
        have HQi : Hid (qi = ((s.per i : Nat) : Int)) := hqi
        rw [← hzi] at E0
        have C0' : W.cell? ⟨S, 0, none⟩ = some (.int .i64 pi) := by rw [hpi]; exact C0
        clear hzi hpi hqi
        clear hW FW r0' r1' rz0 rz1 c2 c3 d2 f2 nR0 F1 I1 nS nR oS
        go_region_held3 (fun w' => w'.cell? ⟨S, 0, none⟩ = some (.int .i64 pi) ∧ w'.cell? ⟨C, i * 3, none⟩ = some (.int .i64 zi)) (first | exact ⟨C0', E0⟩ | exact D3)
          ((go_at_call 105; refine (grow_any x C i s W.drew oo kv fv HOK.out hi qi HQi.out cfW.out).mono ?_; rintro e w3 ⟨rfl, o3, kv3, fv3, cf3, F3⟩; have D3 : w3.cell? ⟨S, 0, none⟩ = some (.int .i64 pi) ∧ w3.cell? ⟨C, i * 3, none⟩ = some (.int .i64 zi) := ⟨F3.cell C0' HNS.out, by rw [HZ.out]; exact cf3.c0 i hi⟩))
        have F3' : Fr (fun t => t = (x, 1) ∨ t = (x, 2 * i + 2) ∨ t = (x, 2 * i + 3)) oo o3 W w3 := (Fr.drew1 _ oo W).trans F3
        have oS3 : o3 S = (x, 0) := (F3'.lab S hSW.out).trans OS.out
        have oR3 : o3 R = (0, 0) := (F3'.lab R hRW.out).trans oR.out
        have nS3 : ¬ (o3 S = (x, 1) ∨ o3 S = (x, 2 * i + 2) ∨ o3 S = (x, 2 * i + 3)) := by rw [F3'.lab S hSW.out]; exact HNS.out
        have nR3 : ¬ (o3 R = (x, 1) ∨ o3 R = (x, 2 * i + 2) ∨ o3 R = (x, 2 * i + 3)) := by rw [F3'.lab R hRW.out]; exact HNR.out
        have hi3 : i < (s.grow i).n := hi
        have ok3 : Ok (s.grow i) := HOK.out.grow hi hl
        have C0_3 := F3'.cell C0 HNS.out
        have C1_3 := F3'.cell C1 HNS.out
        have C2_3 := F3'.cell C2 HNS.out
        have C3_3 := F3'.cell C3 HNS.out
        have Z2_3 := (F3'.frozen (off := 2) hSW.out HNS.out).trans Z2
        have G0_3 := F3'.cell G0 HNR.out
        have G1_3 := F3'.cell G1 HNR.out
        have GZ0_3 := (F3'.frozen (off := 0) hRW.out HNR.out).trans GZ0
        have GZ1_3 := (F3'.frozen (off := 1) hRW.out HNR.out).trans GZ1
        have HF3 : Hid (Fr (fun t => t.1 = x) o o3 w w3) := HFW.out.trans (F3'.mono (fun t e => by rcases e with rfl | rfl | rfl <;> rfl))
        have hf3 := St.grow_fr HOK.out hi
        clear F3 F3' D3 cfW C0 C0' C1 C2 C3 Z2 G0 G1 GZ0 GZ1 E0 HFW
        go_wp2_with fail
        refine (take_any x C i (s.grow i) d hd _ o3 kv3 fv3 ok3 hi3 hf3 cf3).mono ?_
        rintro e w2 ⟨rfl, ⟨kv', fv', cf2⟩, F2⟩
        have I2 : Hid (IsSlab w2 o3 x S ((s.grow i).take i d)) := ⟨ok3.take hi3 hf3 d, oS3, F2.cell C0_3 nS3, F2.cell C1_3 nS3, F2.cell C2_3 nS3, (F2.frozen (World.block_lt_of_cell? _ _ C0_3) nS3).trans Z2_3, C, cap, kv', fv', hcap, F2.cell C3_3 nS3, cf2⟩
        have g0 := F2.cell G0_3 nR3
        have g1 := F2.cell G1_3 nR3
        have gz0 := (F2.frozen (off := 0) (World.block_lt_of_cell? _ _ G0_3) nR3).trans GZ0_3
        have gz1 := (F2.frozen (off := 1) (World.block_lt_of_cell? _ _ G0_3) nR3).trans GZ1_3
        have FF : Hid (Fr (fun t => t.1 = x) o o3 w w2) := HF3.out.trans (F2.mono (fun t e => by rcases e with rfl | rfl | rfl <;> rfl))
        have HoR3 : Hid (o3 R = (0, 0)) := oR3
        obtain ⟨nx, hnx⟩ : ∃ nx, nx = (s.grow i).nxt i := ⟨_, rfl⟩
        rw [← hnx] at HA ⊢
        clear hnx F2 cf2 cf3 C0_3 C1_3 C2_3 C3_3 Z2_3 G0_3 G1_3 GZ0_3 GZ1_3 nS3 nR3 oS3 oR3 HF3 hf3 ok3
        go_wp2_with fail
        exact bodyPost_ret (v := ansV (s.alloc d).1) (by rw [HA.out]; simp [results, Tryz.results84, go_sem, ansV, (two_cells g0 g1 (.int .i64 (i : Int)) (.int .i64 (nx : Int))).1, (two_cells g0 g1 (.int .i64 (i : Int)) (.int .i64 (nx : Int))).2]) rfl ⟨rfl, o3, by
          rw [HA.out]; exact I2.out.fr ((Fr.set (T := fun t => t = (0, 0)) (a := ⟨R, 0, none⟩) HoR3.out _).trans (Fr.set (a := ⟨R, 1, none⟩) HoR3.out _)) (fun a e => hx (by injection e)), (FF.out.setNew (a := ⟨R, 0, none⟩) (by rw [← HR.out]; exact Nat.le_refl _) _).setNew (a := ⟨R, 1, none⟩) (by rw [← HR.out]; exact Nat.le_refl _) _⟩
    · have HA : Hid (s.alloc d = ((i, s.nxt i, 0), s.take i d)) := by show _ = _; unfold St.alloc; rw [hc]; simp only [hf, if_false]
      have hf1 : 0 < (s.fr i).length := List.length_pos_iff.2 hf
      have j1 : (((s.fr i).length : Int) == 0) = false := by simp; omega
      go_wp2_with fail
      refine (take_any x C i s d hd _ oo kv fv I1.out.ok hi hf HC.out).mono ?_
      rintro e w2 ⟨rfl, ⟨kv', fv', cf2⟩, F2⟩
      have nT : ∀ {t : Nat × Nat}, t.1 = x → t.2 = 0 → ¬ (t = (x, 1) ∨ t = (x, 2 * i + 2) ∨ t = (x, 2 * i + 3)) := fun h1 h2 e => by rcases e with rfl | rfl | rfl <;> simp at h2
      have oS : oo S = (x, 0) := I1.out.oS
      have nS : ¬ (oo S = (x, 1) ∨ oo S = (x, 2 * i + 2) ∨ oo S = (x, 2 * i + 3)) := by rw [oS]; exact nT rfl rfl
      have nR : ¬ (oo R = (x, 1) ∨ oo R = (x, 2 * i + 2) ∨ oo R = (x, 2 * i + 3)) := by rw [oR.out]; intro e; rcases e with e | e | e <;> injection e with e _ <;> exact hx e.symm
      have I2 : Hid (IsSlab w2 oo x S (s.take i d)) := ⟨I1.out.ok.take hi hf d, oS, F2.cell I1.out.c0 nS, F2.cell I1.out.c1 nS, F2.cell I1.out.c2 nS, (F2.frozen (World.block_lt_of_cell? _ _ I1.out.c0) nS).trans I1.out.f2, C, cap, kv', fv', hcap, F2.cell c3 nS, cf2⟩
      have g0 := F2.cell r0' nR
      have g1 := F2.cell r1' nR
      have gz0 := (F2.frozen (off := 0) hRw1.out nR).trans rz0
      have gz1 := (F2.frozen (off := 1) hRw1.out nR).trans rz1
      have FF : Hid (Fr (fun t => t.1 = x) o oo w w2) := (F1.out _).trans (F2.mono (fun t e => by rcases e with rfl | rfl | rfl <;> rfl))
      obtain ⟨nx, hnx⟩ : ∃ nx, nx = s.nxt i := ⟨_, rfl⟩
      rw [← hnx] at HA ⊢
      clear hnx F2 cf2 r0' r1' rz0 rz1 I1 F1 d2 c2 c3
      go_wp2_with fail
      exact bodyPost_ret (v := ansV (s.alloc d).1) (by rw [HA.out]; simp [results, Tryz.results84, go_sem, ansV, (two_cells g0 g1 (.int .i64 (i : Int)) (.int .i64 (nx : Int))).1, (two_cells g0 g1 (.int .i64 (i : Int)) (.int .i64 (nx : Int))).2]) rfl ⟨rfl, oo, by
        rw [HA.out]; exact I2.out.fr ((Fr.set (T := fun t => t = (0, 0)) (a := ⟨R, 0, none⟩) oR.out _).trans (Fr.set (a := ⟨R, 1, none⟩) oR.out _)) (fun a e => hx (by injection e)), (FF.out.setNew (a := ⟨R, 0, none⟩) (by rw [← HR.out]; exact Nat.le_refl _) _).setNew (a := ⟨R, 1, none⟩) (by rw [← HR.out]; exact Nat.le_refl _) _⟩
end Go.Proofs.YtfinaichajbnkaaGreatDoor
