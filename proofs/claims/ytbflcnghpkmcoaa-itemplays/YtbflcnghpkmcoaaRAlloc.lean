/-
  THE REFERENCE'S Alloc.
-/
import Derived.Test.YtbflcnghpkmcoaaRReg
namespace Go.Proofs.Ytbflcnghpkmcoaa
open Go.RowKit

/-- What Alloc leaves. -/
def RAllocP (w : World) (o : (Nat → Nat × Nat)) (x S : Nat) (s : St) (d : ByteArray) (w' : World) : Prop := ∃ o', RSlab w' o' x S (s.alloc d).2 ∧ Fr (fun t => t.1 = x) o o' w w'
/-- The slab behind the turn of a page, its row of classes still in block C: class i has a free chunk, and that one is taken. -/
def Mid (w1 : World) (oo : (Nat → Nat × Nat)) (x S C cap i : Nat) (s : St) (d : ByteArray) (wx : World) : Prop :=
  ∃ o1 s1 fv dv lv, Ok s1 ∧ s1.n = s.n ∧ s1.fr i ≠ [] ∧ s.alloc d = ((i, s1.nxt i, 0), s1.take i d) ∧ wx.cell? ⟨S, 0, none⟩ = some (.int .i64 ((s1.page : Nat) : Int)) ∧ wx.cell? ⟨S, 1, none⟩ = some (.int .i64 ((s1.left : Nat) : Int)) ∧ wx.frozen? ⟨S, 1, none⟩ = false ∧ wx.cell? ⟨S, 2, none⟩ = some (.slice (some ⟨C, 0, none⟩) s.n cap) ∧ RCls wx o1 x C s1 fv dv lv ∧ Fr (fun t => t.1 = x) oo o1 w1 wx
set_option maxHeartbeats 4000000 in
set_option maxRecDepth 100000 in
theorem ralloc_any (x S : Nat) (hx : x ≠ 0) (hx9 : x ≠ 9) (s : St) (d : ByteArray) (w : World) (o : (Nat → Nat × Nat)) (h : RSlab w o x S s) :
    Calls Try.prog 46 #[.pointer (some ⟨S, 0, none⟩), .string d] w fun e w' => e = .returned (ansV (s.alloc d).1) ∧ RAllocP w o x S s d w' := by
  obtain ⟨R, hR⟩ : ∃ R, R = w.heap.size := ⟨_, rfl⟩
  have HR : Hid (R = w.heap.size) := hR
  obtain ⟨w0, hw0⟩ : ∃ w0, w0 = w.alloc (.cells #[.int .i64 0, .int .i64 0] 51) := ⟨_, rfl⟩
  have F0 : Hid (∀ T, Fr T o (lab o R (0, 0)) w w0) := fun T => by rw [hw0, hR]; exact Fr.new T o w _ _
  have I0 : Hid (RSlab w0 (lab o R (0, 0)) x S s) := h.fr (F0.out (fun _ => False)) (fun _ x => x)
  have r0 : w0.cell? ⟨R, 0, none⟩ = some (.int .i64 0) := by rw [hw0, hR, World.cell?_alloc_new]; rfl
  have r1 : w0.cell? ⟨R, 1, none⟩ = some (.int .i64 0) := by rw [hw0, hR, World.cell?_alloc_new]; rfl
  have rz : ∀ j, w0.frozen? ⟨R, j, none⟩ = false := fun j => by rw [hw0, hR]; exact World.frozen?_alloc_new _ _ _ _
  obtain ⟨oo, hoo⟩ : ∃ oo, oo = lab o R (0, 0) := ⟨_, rfl⟩
  have oR : Hid (oo R = (0, 0)) := by rw [hoo]; exact lab_same _ _ _
  rw [← hoo] at F0 I0
  clear h hoo
  go_enter Try.func46, Try.ntmps46
  go_wp2_with fail
  rw [← hw0, ← hR]
  clear hw0 hR
  refine (rclass_any x S s d.size _ oo I0.out).mono ?_
  rintro e w1 ⟨r, rfl, hcls, B1⟩
  have I1 : Hid (RSlab w1 oo x S s) := I0.out.below B1
  have F1 : Hid (∀ T, Fr T o oo w w1) := fun T => (F0.out T).trans (Fr.ofBelow T oo B1)
  have r0' := cell_up B1 r0
  have r1' := cell_up B1 r1
  have hRw : R < w0.heap.size := World.block_lt_of_cell? _ _ r0
  have rz0 := (B1.frozen (p := ⟨R, 0, none⟩) hRw).trans (rz 0)
  have rz1 := (B1.frozen (p := ⟨R, 1, none⟩) hRw).trans (rz 1)
  have hRw1 : Hid (R < w1.heap.size) := World.block_lt_of_cell? _ _ r0'
  clear r0 r1 rz F0 I0 B1 hRw
  rcases clsOf_is hcls with ⟨rfl, hc⟩ | ⟨i, rfl, hi, hc, hle⟩
  · have HA : Hid (s.alloc d = ((0, 0, 2), s)) := by show _ = _; unfold St.alloc; rw [hc]
    clear hcls
    go_wp2_with fail
    exact bodyPost_ret (v := ansV (s.alloc d).1) (by rw [HA.out]; simp [results, Try.results46, go_sem, ansV, (two_cells r0' r1' (.int .i64 0) (.int .i64 0)).1, (two_cells r0' r1' (.int .i64 0) (.int .i64 0)).2]) rfl ⟨rfl, oo, by
      rw [HA.out]; exact I1.out.fr ((Fr.set (T := fun t => t = (0, 0)) (a := ⟨R, 0, none⟩) oR.out _).trans (Fr.set (a := ⟨R, 1, none⟩) oR.out _)) (fun a e => hx (by injection e)), ((F1.out _).setNew (a := ⟨R, 0, none⟩) (by rw [← HR.out]; exact Nat.le_refl _) _).setNew (a := ⟨R, 1, none⟩) (by rw [← HR.out]; exact Nat.le_refl _) _⟩
  · obtain ⟨C, cap, fv, dv, lv, hcap, c3, cf⟩ := I1.out.cl
    have HC : Hid (RCls w1 oo x C s fv dv lv) := cf
    have hn := I1.out.ok.n2
    have d2 := cf.c2 i hi
    obtain ⟨a2, b2, e2, _⟩ := (cf.ff i hi).form
    rw [e2] at d2
    have E2 : Hid (fv i = .slice a2 (s.fr i).length b2) := e2
    have hi1 : (i : Int) < (s.n : Int) := by omega
    have hl1 := I1.out.ok.l1
    have hp2 := I1.out.ok.p2
    have q1 := I1.out.ok.ch2 hi
    have q2 := I1.out.ok.fr2 hi
    have im1 : decide ((i : Int) < 0) = false := by simp
    clear cf hcls e2
    go_upto_if 28 with fail
    go_cut [8] from 10 to 157 (fun _ wx => Mid w1 oo x S C cap i s d wx)
    case first =>
      by_cases hf : s.fr i = []
      · have hf0 : (s.fr i).length = 0 := by rw [hf]; rfl
        rw [hf0] at d2
        by_cases hl : s.left = 0
        · have HA : Hid (s.alloc d = ((0, 0, 6), s)) := by show _ = _; unfold St.alloc; rw [hc]; simp only [hf, hl, if_true]
          have c1' := I1.out.c1
          rw [hl] at c1'
          rw [hf0]
          go_wp2_with fail
          exact bodyPost_ret (v := ansV (s.alloc d).1) (by rw [HA.out]; simp [results, Try.results46, go_sem, ansV, (two_cells r0' r1' (.int .i64 0) (.int .i64 0)).1, (two_cells r0' r1' (.int .i64 0) (.int .i64 0)).2]) rfl ⟨rfl, oo, by
            rw [HA.out]; exact I1.out.fr ((Fr.set (T := fun t => t = (0, 0)) (a := ⟨R, 0, none⟩) oR.out _).trans (Fr.set (a := ⟨R, 1, none⟩) oR.out _)) (fun a e => hx (by injection e)), ((F1.out _).setNew (a := ⟨R, 0, none⟩) (by rw [← HR.out]; exact Nat.le_refl _) _).setNew (a := ⟨R, 1, none⟩) (by rw [← HR.out]; exact Nat.le_refl _) _⟩
        · have c1' := I1.out.c1
          have f1' := I1.out.f1
          have c0' := I1.out.c0
          have j1 : ((s.left : Int) == 0) = false := by simp; omega
          have d0 := HC.out.c0 i hi
          have oS : oo S = (x, 0) := I1.out.oS
          have szp := sz_pos i
          have sz2 := I1.out.ok.sz2 hi
          have g2 := I1.out.ok.g2
          have per1 := I1.out.ok.per1 hi
          have per2 := I1.out.ok.per2 i
          obtain ⟨q, hq⟩ : ∃ q, s.per i = q := ⟨_, rfl⟩
          have HQ : Hid (s.per i = q) := hq
          rw [hq] at per1 per2
          obtain ⟨W, hW⟩ : ∃ W, W = w1.setCell ⟨S, 1, none⟩ (.int .i64 ((s.left : Int) - 1)) := ⟨_, rfl⟩
          have FW : Fr (fun t => t = (x, 0)) oo oo w1 W := by rw [hW]; exact Fr.set (a := ⟨S, 1, none⟩) oS _
          have cfW : Hid (RCls W oo x C s fv dv lv) := HC.out.fr (by omega) FW (fun a ha e => ha (by injection e))
          have C0 : W.cell? ⟨S, 0, none⟩ = some (.int .i64 ((s.page : Nat) : Int)) := by rw [hW, World.cell?_setCell_other _ _ _ _ (fun e => by injection e with _ e; cases e)]; exact c0'
          have C1 : W.cell? ⟨S, 1, none⟩ = some (.int .i64 (((s.left - 1 : Nat)) : Int)) := by rw [hW, World.cell?_setCell_same _ _ _ c1']; congr 2; omega
          have C2 : W.cell? ⟨S, 2, none⟩ = some (.slice (some ⟨C, 0, none⟩) s.n cap) := by rw [hW, World.cell?_setCell_other _ _ _ _ (fun e => by injection e with _ e; cases e)]; exact c3
          have ZS : W.frozen? ⟨S, 1, none⟩ = false := by rw [hW, World.frozen?_setCell]; exact f1'
          have E0 : W.cell? ⟨C, i * 5, none⟩ = some (.int .i64 ((sz i : Nat) : Int)) := cfW.out.c0 i hi
          have HFW : Hid (Fr (fun t => t.1 = x) oo oo w1 W) := FW.mono (fun t e => by rw [e])
          obtain ⟨zi, hzi⟩ : ∃ zi : Int, zi = ((sz i : Nat) : Int) := ⟨_, rfl⟩
          obtain ⟨pi, hpi⟩ : ∃ pi : Int, pi = ((s.page : Nat) : Int) := ⟨_, rfl⟩
          have w3q : IntKind.i64.wrap (pi.tdiv zi) = (q : Int) := by
            rw [Go.IntWalk.i64_quo _ _ (by omega), hpi, hzi, ← hq]; unfold St.per; rw [Int.natCast_ediv]
          have w3s : IntKind.i64.wrap ((q : Int) - 1) = (q : Int) - 1 := by rw [IntKind.wrap_i64]; omega
          have q0 : (zi == 0) = false := beq_eq_false_iff_ne.2 (by omega)
          have q0' : ¬ (zi = 0) := by omega
          have C0' : W.cell? ⟨S, 0, none⟩ = some (.int .i64 pi) := by rw [hpi]; exact C0
          rw [← hzi] at E0
          have HC0 : Hid (W.cell? ⟨S, 0, none⟩ = some (.int .i64 ((s.page : Nat) : Int))) := C0
          have HC1 : Hid (W.cell? ⟨S, 1, none⟩ = some (.int .i64 (((s.left - 1 : Nat)) : Int))) := C1
          have HC2 : Hid (W.cell? ⟨S, 2, none⟩ = some (.slice (some ⟨C, 0, none⟩) s.n cap)) := C2
          have HZS : Hid (W.frozen? ⟨S, 1, none⟩ = false) := ZS
          have HZI : Hid (zi = ((sz i : Nat) : Int) ∧ pi = ((s.page : Nat) : Int)) := ⟨hzi, hpi⟩
          have z00 : ((0 : Nat) : Int) = 0 := rfl
          have z01 : ((0 : Int) == 0) = true := rfl
          rw [hf0, z00, z01]
          clear z00 z01
          go_wp2_with fail
          rw [← hW]
          clear hW FW C0 C1 C2 ZS hzi hpi hq c0' c1' f1' d0
          go_quiet (fail)
          obtain ⟨U, hU⟩ : ∃ U, U = W.drewN nq := ⟨_, rfl⟩
          have BU : Below W.heap.size W U := by rw [hU]; exact below_drewN (Below.refl _ _) nq
          obtain ⟨n1, hn1⟩ : ∃ n1, (s.ch i).length = n1 := ⟨_, rfl⟩
          have HN1 : Hid ((s.ch i).length = n1) := hn1
          have cfU : Hid (RCls U oo x C s fv dv lv) := cfW.out.fr (by omega) (Fr.ofBelow (fun _ => False) oo BU) (fun _ _ x => x)
          have rt0 : RT U oo x C i U oo n1 (.slice a2 0 b2) [] (dv i) ((s.ch i).map (·.2)) (lv i) ((s.ch i).map (·.1)) := by
            have := RT.start cfU.out hi
            rw [E2.out, hf, hn1] at this; exact this
          have HRT0 : Hid (RT U oo x C i U oo n1 (.slice a2 0 b2) [] (dv i) ((s.ch i).map (·.2)) (lv i) ((s.ch i).map (·.1))) := rt0
          have E0U : Hid (U.cell? ⟨C, i * 5, none⟩ = some (.int .i64 zi)) := cell_up BU E0
          have C0U : Hid (U.cell? ⟨S, 0, none⟩ = some (.int .i64 pi)) := cell_up BU C0'
          have HBU : Hid (Below W.heap.size W U) := BU
          have oSU : Hid (oo S = (x, 0)) := oS
          rw [hn1] at q1
          rw [← hU]
          clear hU BU rt0 E0 C0' oS
          go_wp2_with fail
          go_loopw [8] (fun y wr => ∃ (z : Int) (r m : Nat) (fl : List Nat) (o1 : (Nat → Nat × Nat)) (fa : Option Addr) (fc : Nat), y = .int .i64 z ∧ z + 1 = (r : Int) ∧ r ≤ q ∧ m + r = q ∧ Hid (m = fl.length) ∧ Hid (fl ++ down n1 r = down n1 q) ∧ Hid (RT U oo x C i wr o1 n1 (.slice fa m fc) fl (dv i) ((s.ch i).map (·.2)) (lv i) ((s.ch i).map (·.1)))) (fun y _ => (intOf y + 1).toNat)
          case atStart => exact ⟨(q : Int) - 1, q, 0, [], oo, a2, b2, rfl, by omega, by omega, by omega, rfl, rfl, HRT0⟩
          case round =>
            obtain ⟨z, r, m, fl, o1, fa, fc, rfl, hz, hr, hmr, HM, HL, HRT⟩ := hrel
            by_cases hz0 : 0 ≤ z
            · obtain ⟨k, rfl⟩ : ∃ k : Nat, z = k := ⟨z.toNat, by omega⟩
              have hrk : r = k + 1 := by omega
              obtain ⟨u, hu⟩ : ∃ u, u = n1 + k := ⟨_, rfl⟩
              have e3 : (n1 : Int) + (k : Int) = (u : Int) := by omega
              have e4 : IntKind.i64.wrap (u : Int) = (u : Int) := by rw [IntKind.wrap_i64]; omega
              have D1 := HRT.out.c1
              have D2 := HRT.out.c2
              have Z2 : wr.frozen? ⟨C, i * 5 + 2, none⟩ = false := (HRT.out.frz _).trans (cfU.out.fz i hi 2 (by omega))
              have ff := HRT.out.drew.ff
              rw [← HM.out] at ff
              obtain ⟨v3, w3, o3, hrun, O3, F3⟩ := app_one 64 3 (.int .i64 0) 8 under64 info3 (by kernel_rfl) ff [.int .i64 ((u : Nat) : Int)] rfl (fun x hx => by simp at hx; subst hx; rfl) (by omega) (by omega)
              obtain ⟨a3, b3, rfl, _⟩ := O3.form
              have oC1 := HRT.out.oC
              have nC : ¬ (o1 C = (x, 3 * i + 2)) := by rw [oC1]; intro e; injection e with _ e; omega
              have hCr : C < wr.heap.size := World.block_lt_of_cell? _ _ D2
              have W2 := F3.cell D2 nC
              have WZ2 : w3.frozen? ⟨C, i * 5 + 2, none⟩ = false := (F3.frozen (off := i * 5 + 2) hCr nC).trans Z2
              have RT3 : Hid (RT U oo x C i (w3.setCell ⟨C, i * 5 + 2, none⟩ (.slice a3 (m + 1) b3)) o3 n1 (.slice a3 (m + 1) b3) (fl ++ [u]) (dv i) ((s.ch i).map (·.2)) (lv i) ((s.ch i).map (·.1))) := by
                refine HRT.out.app ((Fr.drew1 _ o1 wr).trans F3) ?_
                rw [List.length_append, frc_append, ← HM.out]; exact O3
              have HL3 : Hid ((fl ++ [u]) ++ down n1 k = down n1 q) := by show _ = _; rw [← HL.out, hrk, down, hu]; simp
              have HM3 : Hid (m + 1 = (fl ++ [u]).length) := by show _ = _; rw [HM.out]; simp
              clear ff O3 F3 HRT hu HL HM
              go_wp2_with fail
              go_region_law (refine step_app rfl (.tmp 60) (.tmp 67) 64 64 rfl _ _ _ rfl rfl hrun ?_)
              all_goals
                go_wp2_with fail
                exact ⟨⟨(k : Int) - 1, k, m + 1, fl ++ [u], o3, a3, b3, rfl, by omega, by omega, by omega, HM3, HL3, RT3⟩, by simp [intOf] <;> omega⟩
            · have hz' : decide (0 ≤ z) = false := by simp; omega
              have hr0 : r = 0 := by omega
              have hmq : m = q := by omega
              subst hmq
              have HL0 : fl = down n1 m := by have := HL.out; rw [hr0, down, List.append_nil] at this; exact this
              subst HL0
              go_upto_region 13 with fail
              go_cut [8] from 10 to 157 (fun _ wx => ∃ o1 fa fc, RT U oo x C i wx o1 (n1 + m) (.slice fa m fc) (down n1 m) (dv i) ((s.ch i).map (·.2)) (lv i) ((s.ch i).map (·.1)))
              case first =>
                have D1 := HRT.out.c1
                have Z1 : wr.frozen? ⟨C, i * 5 + 1, none⟩ = false := (HRT.out.frz _).trans (cfU.out.fz i hi 1 (by omega))
                have D0 : wr.cell? ⟨C, i * 5, none⟩ = some (.int .i64 zi) := (HRT.out.oth _ (by omega) (by omega) (by omega) (by omega)).trans E0U.out
                have S0 : wr.cell? ⟨S, 0, none⟩ = some (.int .i64 pi) := HRT.out.fr.cell C0U.out (by rw [oSU.out]; exact TI_0 x i)
                have w4 : IntKind.i64.wrap ((n1 : Int) + (m : Int)) = (n1 : Int) + (m : Int) := by rw [IntKind.wrap_i64]; omega
                have w5 : (n1 : Int) + (m : Int) = ((n1 + m : Nat) : Int) := by omega
                have DONE : Hid (∃ o1 fa fc, RT U oo x C i ((wr.setCell ⟨C, i * 5 + 1, none⟩ (.int .i64 ((n1 : Int) + (m : Int)))).drew) o1 (n1 + m) (.slice fa m fc) (down n1 m) (dv i) ((s.ch i).map (·.2)) (lv i) ((s.ch i).map (·.1))) :=
                  ⟨o1, fa, fc, (HRT.out.set 1 _ (.inl ⟨rfl, by rw [w5], rfl, rfl, rfl⟩) HRT.out.ff HRT.out.dd HRT.out.lo).drew⟩
                clear HRT w5
                go_region
                all_goals
                  go_wp2_with fail
                  go_meet
                  exact DONE.out
              case rest =>
                obtain ⟨o2, fa2, fc2, rt2⟩ := hcut
                have HRT2 : Hid (RT U oo x C i wc o2 (n1 + m) (.slice fa2 m fc2) (down n1 m) (dv i) ((s.ch i).map (·.2)) (lv i) ((s.ch i).map (·.1))) := rt2
                obtain ⟨da, dc, ed, _⟩ := (cfU.out.dd i hi).form
                obtain ⟨la, lc, el, _⟩ := (cfU.out.ll i hi).form
                rw [hn1] at ed el
                clear rt2 HRT HRT0
                go_wp2_with fail
                go_loopw [97] (fun _ wr => ∃ (j : Nat) (o1 : (Nat → Nat × Nat)) (fa da la : Option Addr) (fc dc lc : Nat), j ≤ m ∧ Hid (RT U oo x C i wr o1 (n1 + m) (.slice fa m fc) (down n1 m) (.slice da (n1 + j) dc) ((s.ch i).map (·.2) ++ List.replicate j ⟨#[]⟩) (.slice la (n1 + j) lc) ((s.ch i).map (·.1) ++ List.replicate j false))) (fun _ wr => n1 + m - lenAt wr ⟨C, i * 5 + 3, none⟩)
                case atStart =>
                  refine ⟨0, o2, fa2, da, la, fc2, dc, lc, by omega, ?_⟩
                  have := HRT2.out
                  rw [ed, el] at this
                  rw [show List.replicate 0 (⟨#[]⟩ : ByteArray) = [] from rfl, show List.replicate 0 false = [] from rfl, List.append_nil, List.append_nil, Nat.add_zero]
                  exact this
                case round =>
                  clear HRT2 ed el
                  obtain ⟨j, o1, fa3, da, la, fc3, dc, lc, hj, HRT⟩ := hrel
                  have D1 := HRT.out.c1
                  have D3 := HRT.out.c3
                  have D4 := HRT.out.c4
                  have w4 : ((n1 + m : Nat) : Int) = (n1 : Int) + (m : Int) := by omega
                  by_cases hjm : j < m
                  · have t1 : decide (((n1 + j : Nat) : Int) < ((n1 + m : Nat) : Int)) = true := by simp; omega
                    go_wp2_with fail
                    go_quiet (fail)
                    go_wp2_with fail
                    have hz3 : wr.frozen? ⟨C, i * 5 + 3, none⟩ = false := (HRT.out.frz _).trans (cfU.out.fz i hi 3 (by omega))
                    have hz4 : wr.frozen? ⟨C, i * 5 + 4, none⟩ = false := (HRT.out.frz _).trans (cfU.out.fz i hi 4 (by omega))
                    have l1 : ((s.ch i).map (·.2) ++ List.replicate j (⟨#[]⟩ : ByteArray)).length = n1 + j := by rw [List.length_append, List.length_map, List.length_replicate, hn1]
                    have l2 : ((s.ch i).map (·.1) ++ List.replicate j false).length = n1 + j := by rw [List.length_append, List.length_map, List.length_replicate, hn1]
                    refine Code.wp_mono ?_ (reg15 x C i hx9 U oo o1 wr nq n1 (n1 + m) j _ _ da la dc lc _ _ (by omega) l1 l2 hz3 hz4 HRT _ _ _ _ _ _ _ _ _ _ _ _ _ _ _ _ _ _ _ _ _ _ _ _ _ _ _ _ _ _ _ _ _ _ _ _ _ _ _ _ _ _ _ _ _ _ _ _ _ _ _ _ _ _ _ _ _ _ _ _ _ _ _ _ _ _ _ _ _ _ _ _ _ _ _ _ _ _ _ _ _ _ _ _ _ _ _ _ _ _ _ _ _ _ _ _ _ _ _ _ _ _ _ _ _ _ _ _ _ _ _ _ _ _ _ _ _ _ _ _ _ _ _ _ _ _ _ _ _ _ _ _ _ _ _ _ _ _ _ _ _ _ _ _ _ _ _ _ _ _ _ _ _ _ _ _ _)
                    rintro e act wx hpost
                    cases e
                    case normal =>
                      obtain ⟨⟨v98, v99, v100, v101, v102, v103, v104, v105, v106, v107, v108, v109, v110, v111, v112, v113, v114, v115, rfl⟩, o5, da5, la5, dc5, lc5, rt5⟩ := hpost
                      have H5 : Hid (RT U oo x C i wx o5 (n1 + m) (.slice fa3 m fc3) (down n1 m) (.slice da5 (n1 + (j + 1)) dc5) ((s.ch i).map (·.2) ++ List.replicate (j + 1) ⟨#[]⟩) (.slice la5 (n1 + (j + 1)) lc5) ((s.ch i).map (·.1) ++ List.replicate (j + 1) false)) := by
                        show RT _ _ _ _ _ _ _ _ _ _ _ _ _ _
                        rw [List.replicate_succ', List.replicate_succ', ← List.append_assoc, ← List.append_assoc]
                        exact rt5
                      have e3 := lenAt_of D3
                      have e5 := lenAt_of H5.out.c3
                      clear rt5 HRT hz3 hz4 l1 l2
                      dsimp only
                      go_wp2_with fail
                      exact ⟨⟨j + 1, o5, fa3, da5, la5, fc3, dc5, lc5, by omega, H5⟩, by rw [e3, e5]; omega⟩
                    all_goals exact hpost.elim
                  · have t1 : decide (((n1 + j : Nat) : Int) < ((n1 + m : Nat) : Int)) = false := by simp; omega
                    have hjm' : j = m := by omega
                    have MID : Hid (∀ dd, Mid w1 oo x S C cap i s d (wr.drewN dd)) := fun dd => by
                      have rt := HRT.out.up (w' := wr.drewN dd) (below_drewN (Below.refl _ _) dd)
                      have hok := I1.out.ok.grow hi hl
                      have nS : ¬ TI x i (oo S) := by rw [oSU.out]; exact TI_0 x i
                      have cf := rt.done cfU.out (s' := s.grow i) rfl (fun j e => upd_other _ _ _ e) (fun j e => upd_other _ _ _ e) (by show (upd s.ch i _ i).length = _; rw [upd_same, List.length_append, List.length_replicate, HQ.out, hn1]) (by show upd s.fr i _ i = _; rw [upd_same, hf, HQ.out, hn1]; rfl) (by show (upd s.ch i _ i).map _ = _; rw [upd_same, List.map_append, List.map_replicate, HQ.out, hjm']; rfl) (by show (upd s.ch i _ i).map _ = _; rw [upd_same, List.map_append, List.map_replicate, HQ.out, hjm']; rfl)
                      have F2 : Fr (fun t => t.1 = x) oo o1 w1 (wr.drewN dd) := (HFW.out.trans (Fr.ofBelow _ oo HBU.out)).trans (rt.fr.mono (fun t e => TI_x e))
                      have UF : Fr (TI x i) oo o1 W (wr.drewN dd) := (Fr.ofBelow _ oo HBU.out).trans rt.fr
                      refine ⟨o1, s.grow i, _, _, _, hok, rfl, St.grow_fr I1.out.ok hi, ?_, UF.cell HC0.out nS, UF.cell HC1.out nS, (UF.frozen (World.block_lt_of_cell? _ _ HC0.out) nS).trans HZS.out, UF.cell HC2.out nS, cf, F2⟩
                      unfold St.alloc; rw [hc]; simp only [hf, hl, if_true, if_false]
                    clear HRT
                    go_wp2_with fail
                    go_quiet (fail)
                    go_wp2_with fail
                    go_meet
                    exact MID.out nq
      · have HA : Hid (s.alloc d = ((i, s.nxt i, 0), s.take i d)) := by show _ = _; unfold St.alloc; rw [hc]; simp only [hf, if_false]
        have hf1 : 0 < (s.fr i).length := List.length_pos_iff.2 hf
        have j1 : (((s.fr i).length : Int) == 0) = false := by simp; omega
        go_wp2_with fail
        go_meet
        exact ⟨oo, s, fv, dv, lv, I1.out.ok, rfl, hf, HA.out, I1.out.c0, I1.out.c1, I1.out.f1, c3, HC.out, Fr.refl _ _ _⟩
    case rest =>
      obtain ⟨o1, s1, fv1, dv1, lv1, ok1, hn1, hf1, hA, c0, c1, f1, c2, cf, FF⟩ := hcut
      obtain ⟨wm, hwm0⟩ : ∃ wm, wm = wc := ⟨_, rfl⟩
      rw [← hwm0] at c0 c1 f1 c2 cf FF ⊢
      clear hwm0
      have HA : Hid (s.alloc d = ((i, s1.nxt i, 0), s1.take i d)) := hA
      have hi' : i < s1.n := by omega
      have hlen : 0 < (s1.fr i).length := List.length_pos_iff.2 hf1
      obtain ⟨g, cg, eg, og, hg, hcg, hmg, gc, gf⟩ := (cf.ff i hi').there hlen
      obtain ⟨hmem, hlast⟩ := s1.nxt_mem hf1
      have hxl : (s1.fr i)[(s1.fr i).length - 1]? = some (s1.nxt i) := by
        rw [hlast, List.getElem?_append_right (by simp)]; simp
      have y1 := gc _ _ (frc_at _ _ _ hxl)
      obtain ⟨dd, hp⟩ := ok1.nxt hi' hf1
      obtain ⟨gd, cd, gl, cl, e1, e2, od1, ol1, hcd, hcl, k0, k1, zk0, zk1⟩ := cf.chunk hi' hp
      have p1 := ok1.ch2 hi'
      have p2 := ok1.fr2 hi'
      obtain ⟨m, hm0⟩ : ∃ m, (s1.fr i).length = m + 1 := ⟨(s1.fr i).length - 1, by omega⟩
      have hlt := ok1.frlt hi' hmem
      obtain ⟨n1, hn1'⟩ : ∃ n1, (s1.ch i).length = n1 := ⟨_, rfl⟩
      obtain ⟨a, ha⟩ : ∃ a, s1.nxt i = a := ⟨_, rfl⟩
      have HAn : Hid (s1.nxt i = a) := ha
      have rt := RT.start cf hi'
      have d2 := rt.c2
      have d3 := rt.c3
      have d4 := rt.c4
      rw [eg, hm0] at d2
      rw [e1, hn1'] at d3
      rw [e2, hn1'] at d4
      rw [ha] at y1 k0 k1 zk0 zk1 hlt
      rw [hm0, Nat.add_sub_cancel] at y1
      rw [hn1'] at hlt hcd hcl p1
      have z2 := cf.fz i hi' 2 (by omega)
      have i1 : (m : Int) < (m : Int) + 1 := by omega
      have i2 : (a : Int) < (n1 : Int) := by omega
      have sl := slice_hi g (m + 1) cg m (by omega)
      have oC := cf.oC
      have neGC : g ≠ C := fun e => by rw [e, oC] at og; injection og with _ e; omega
      have neDC : gd ≠ C := fun e => by rw [e, oC] at od1; injection od1 with _ e; omega
      have neLC : gl ≠ C := fun e => by rw [e, oC] at ol1; injection ol1 with _ e; omega
      have neDL : gd ≠ gl := fun e => by rw [e, ol1] at od1; injection od1 with _ e; omega
      have neGD : g ≠ gd := fun e => by rw [e, od1] at og; injection og with _ e; omega
      have neGL : g ≠ gl := fun e => by rw [e, ol1] at og; injection og with _ e; omega
      have HRT : Hid (RT wm o1 x C i wm o1 (s1.ch i).length (fv1 i) (s1.fr i) (dv1 i) ((s1.ch i).map (·.2)) (lv1 i) ((s1.ch i).map (·.1))) := rt
      have HCF : Hid (RCls wm o1 x C s1 fv1 dv1 lv1) := cf
      have HFF : Hid (Fr (fun t => t.1 = x) oo o1 w1 wm) := FF
      have ROK : Hid (Ok s1 ∧ s1.n = s.n ∧ s1.fr i ≠ []) := ⟨ok1, hn1, hf1⟩
      have RC0 : Hid (wm.cell? ⟨S, 0, none⟩ = some (.int .i64 ((s1.page : Nat) : Int))) := c0
      have RC1 : Hid (wm.cell? ⟨S, 1, none⟩ = some (.int .i64 ((s1.left : Nat) : Int))) := c1
      have RF1 : Hid (wm.frozen? ⟨S, 1, none⟩ = false) := f1
      have RC2 : Hid (wm.cell? ⟨S, 2, none⟩ = some (.slice (some ⟨C, 0, none⟩) s.n cap)) := c2
      clear c0 c1 f1 c2 cf FF rt gc gf hlast hxl hp
      go_wp2_with fail
      go_quiet (fail)
      obtain ⟨W, hW⟩ : ∃ W, W = wm.drewN nq := ⟨_, rfl⟩
      have BW : Below wm.heap.size wm W := by rw [hW]; exact below_drewN (Below.refl _ _) nq
      have D2 := cell_up BW d2
      have D3 := cell_up BW d3
      have D4 := cell_up BW d4
      have K0 := cell_up BW k0
      have K1 := cell_up BW k1
      have hCc : C < wm.heap.size := World.block_lt_of_cell? _ _ d2
      have Z2 := (BW.frozen (p := ⟨C, i * 5 + 2, none⟩) hCc).trans z2
      have ZK0 := (BW.frozen (p := ⟨gd, a, none⟩) (World.block_lt_of_cell? _ _ k0)).trans zk0
      have ZK1 := (BW.frozen (p := ⟨gl, a, none⟩) (World.block_lt_of_cell? _ _ k1)).trans zk1
      have HBW : Hid (Below wm.heap.size wm W) := BW
      rw [← hW]
      clear hW BW d2 d3 d4 k0 k1 z2 zk0 zk1 y1
      go_upto_region 17 with fail
      obtain ⟨V, hV⟩ : ∃ V, V = W.setCell ⟨C, i * 5 + 2, none⟩ (.slice (some ⟨g, 0, none⟩) m cg) := ⟨_, rfl⟩
      have HV : Hid (V = W.setCell ⟨C, i * 5 + 2, none⟩ (.slice (some ⟨g, 0, none⟩) m cg)) := hV
      clear hV
      go_cut [8] from 10 to 157 (fun _ wx => ∃ q, wx = V.drewN q)
      case first =>
        have hwm : IntKind.i64.wrap ((m : Int) + 1 - 1) = (m : Int) := by rw [IntKind.wrap_i64]; omega
        have hwm' : (m : Int) + 1 - 1 = (m : Int) := by omega
        go_region
        all_goals
          go_wp2_with fail
          go_meet
          exact ⟨1, by rw [HV.out]; rfl⟩
      case rest =>
        obtain ⟨qq, hwq⟩ := hcut
        have hCW : C < W.heap.size := World.block_lt_of_cell? _ _ D2
        have BV : Below V.heap.size V wc := by rw [hwq]; exact below_drewN (Below.refl _ _) qq
        have rt1 := HRT.out.up HBW.out
        have ffc : OwnK W o1 (x, 3 * i + 2) 1 (.slice (some ⟨g, 0, none⟩) m cg) ((s1.fr i).dropLast).length (frc (s1.fr i).dropLast) := by
          have ff := rt1.ff
          rw [eg] at ff
          have := ff.cut m (by omega)
          rw [frc_take] at this
          rw [List.length_dropLast, hm0, List.dropLast_eq_take, hm0]; exact this
        have rt2 : RT wm o1 x C i V o1 (s1.ch i).length (.slice (some ⟨g, 0, none⟩) m cg) (s1.fr i).dropLast (dv1 i) ((s1.ch i).map (·.2)) (lv1 i) ((s1.ch i).map (·.1)) := by
          rw [HV.out]
          exact rt1.set 2 _ (.inr (.inl ⟨rfl, rfl, rfl, rfl, rfl⟩)) ffc rt1.dd rt1.lo
        have rt3 := rt2.up BV
        have D3c := rt3.c3
        have D4c := rt3.c4
        rw [e1, hn1'] at D3c
        rw [e2, hn1'] at D4c
        have K0c : wc.cell? ⟨gd, a, none⟩ = some (.string dd) := cell_up BV (by rw [HV.out, World.cell?_setCell_other _ _ _ _ (fun e => neDC (by injection e with e; exact e.symm))]; exact K0)
        have K1c : wc.cell? ⟨gl, a, none⟩ = some (.bool false) := cell_up BV (by rw [HV.out, World.cell?_setCell_other _ _ _ _ (fun e => neLC (by injection e with e; exact e.symm))]; exact K1)
        have hgdV : gd < V.heap.size := by rw [HV.out]; simpa [World.setCell] using World.block_lt_of_cell? _ _ K0
        have hglV : gl < V.heap.size := by rw [HV.out]; simpa [World.setCell] using World.block_lt_of_cell? _ _ K1
        have ZK0c : wc.frozen? ⟨gd, a, none⟩ = false := (BV.frozen (p := ⟨gd, a, none⟩) hgdV).trans (by rw [HV.out, World.frozen?_setCell]; exact ZK0)
        have ZK1c : wc.frozen? ⟨gl, a, none⟩ = false := (BV.frozen (p := ⟨gl, a, none⟩) hglV).trans (by rw [HV.out, World.frozen?_setCell]; exact ZK1)
        obtain ⟨Y, hY⟩ : ∃ Y, Y = (wc.setCell ⟨gd, a, none⟩ (.string d)).setCell ⟨gl, a, none⟩ (.bool true) := ⟨_, rfl⟩
        have YF : Fr (fun t => t = (x, 3 * i + 3) ∨ t = (x, 3 * i + 4)) o1 o1 wc Y := by rw [hY]; exact (Fr.set (a := ⟨gd, a, none⟩) (.inl od1) _).trans (Fr.set (a := ⟨gl, a, none⟩) (.inr ol1) _)
        have lenm : ((s1.ch i).map (·.2)).length = (s1.ch i).length := List.length_map _
        have lenb : ((s1.ch i).map (·.1)).length = (s1.ch i).length := List.length_map _
        have YRT : RT wm o1 x C i Y o1 (s1.ch i).length (.slice (some ⟨g, 0, none⟩) m cg) (s1.fr i).dropLast (dv1 i) (((s1.ch i).map (·.2)).set a d) (lv1 i) (((s1.ch i).map (·.1)).set a true) := by
          refine rt3.keep YF (fun t e => by rcases e with rfl | rfl; exact .inr (.inr (.inl rfl)); exact .inr (.inr (.inr rfl))) (fun e => by rcases e with e | e <;> injection e with _ e <;> omega) ?_ ?_ ?_ rfl rfl rfl
          · exact rt3.ff.fr YF (fun e => by rcases e with e | e <;> injection e with _ e <;> omega)
          · have q := rt3.dd
            rw [lenm, e1] at q
            have := (q.set a (.string d) rfl (by omega)).fr (Fr.set (T := fun t => t = (x, 3 * i + 4)) (a := ⟨gl, a, none⟩) ol1 (.bool true)) (fun e => by injection e with _ e; omega)
            rw [hY, List.length_set, lenm, ← frc_set1, e1]; exact this
          · have f1 : Fr (fun t => t = (x, 3 * i + 3)) o1 o1 wc (wc.setCell ⟨gd, a, none⟩ (.string d)) := Fr.set (a := ⟨gd, a, none⟩) od1 _
            have q := rt3.lo
            rw [lenb, e2] at q
            have := (q.fr f1 (fun e => by injection e with _ e; omega)).set a (.bool true) rfl (by omega)
            rw [hY, List.length_set, lenb, ← boc_set1, e2]; exact this
        have YD3 := YRT.c3
        have YD4 := YRT.c4
        rw [e1, hn1'] at YD3
        rw [e2, hn1'] at YD4
        have KP : ((wc.setCell ⟨gd, a, none⟩ (.string d)).setCell ⟨gl, a, none⟩ (.bool true)).cell? ⟨C, i * 5 + 3, none⟩ = some (.slice (some ⟨gd, 0, none⟩) n1 cd) ∧ ((wc.setCell ⟨gd, a, none⟩ (.string d)).setCell ⟨gl, a, none⟩ (.bool true)).cell? ⟨C, i * 5 + 4, none⟩ = some (.slice (some ⟨gl, 0, none⟩) n1 cl) := by rw [← hY]; exact ⟨YD3, YD4⟩
        have KQ : (wc.setCell ⟨gd, a, none⟩ (.string d)).cell? ⟨C, i * 5 + 3, none⟩ = some (.slice (some ⟨gd, 0, none⟩) n1 cd) ∧ (wc.setCell ⟨gd, a, none⟩ (.string d)).cell? ⟨C, i * 5 + 4, none⟩ = some (.slice (some ⟨gl, 0, none⟩) n1 cl) := by
          rw [World.cell?_setCell_other _ _ _ _ (fun e => neDC (by injection e)), World.cell?_setCell_other _ _ _ _ (fun e => neDC (by injection e))]
          exact ⟨D3c, D4c⟩
        have KD : (wc.setCell ⟨gd, a, none⟩ (.string d)).cell? ⟨gl, a, none⟩ = some (.bool false) := by
          rw [World.cell?_setCell_other _ _ _ _ (fun e => neDL (by injection e))]; exact K1c
        have TT := YRT.fr
        have oS1 : o1 S = (x, 0) := (HFF.out.lab S (World.block_lt_of_cell? _ _ I1.out.c0)).trans I1.out.oS
        have nS : ¬ TI x i (o1 S) := by rw [oS1]; exact TI_0 x i
        have hSm : S < wm.heap.size := World.block_lt_of_cell? _ _ RC0.out
        have oR1 : o1 R = (0, 0) := (HFF.out.lab R hRw1.out).trans oR.out
        have nR : ¬ TI x i (o1 R) := by rw [oR1]; intro e; exact hx (TI_x e).symm
        have nR0 : ¬ ((oo R).1 = x) := by rw [oR.out]; exact fun e => hx e.symm
        have g0 := TT.cell (HFF.out.cell r0' nR0) nR
        have g1 := TT.cell (HFF.out.cell r1' nR0) nR
        have hRm : R < wm.heap.size := World.block_lt_of_cell? _ _ (HFF.out.cell r0' nR0)
        have gz0 := (TT.frozen (off := 0) hRm nR).trans ((HFF.out.frozen (off := 0) hRw1.out nR0).trans rz0)
        have gz1 := (TT.frozen (off := 1) hRm nR).trans ((HFF.out.frozen (off := 1) hRw1.out nR0).trans rz1)
        have cf := YRT.done HCF.out (s' := s1.take i d) rfl (fun j e => upd_other _ _ _ e) (fun j e => upd_other _ _ _ e) (by show (upd s1.ch i _ i).length = _; rw [upd_same, List.length_set]) (upd_same _ _ _) (by show (upd s1.ch i _ i).map _ = _; rw [upd_same, List.map_set, ha]) (by show (upd s1.ch i _ i).map _ = _; rw [upd_same, List.map_set, ha])
        have SL : RSlab Y o1 x S (s1.take i d) := ⟨ROK.out.1.take hi' ROK.out.2.2 d, (TT.lab S hSm).trans oS1, TT.cell RC0.out nS, TT.cell RC1.out nS, (TT.frozen hSm nS).trans RF1.out, C, cap, _, _, _, by show s1.n ≤ cap; rw [ROK.out.2.1]; exact hcap, by show _ = some (Value.slice (some ⟨C, 0, none⟩) s1.n cap); rw [ROK.out.2.1]; exact TT.cell RC2.out nS, cf⟩
        have HSL : Hid (RSlab Y o1 x S (s1.take i d)) := SL
        have HFY : Hid (Fr (fun t => t.1 = x) o o1 w Y) := ((F1.out _).trans HFF.out).trans (TT.mono (fun t e => TI_x e))
        have HoR1 : Hid (o1 R = (0, 0)) := oR1
        have HY : Hid (Y = (wc.setCell ⟨gd, a, none⟩ (.string d)).setCell ⟨gl, a, none⟩ (.bool true)) := hY
        rw [ha] at HA
        clear hwq rt1 rt2 rt3 ffc BV YF YRT TT cf SL D2 D3 D4 K0 K1 Z2 ZK0 ZK1 HRT HCF HFF RC0 RC1 RF1 RC2 r0' r1' rz0 rz1
        go_wp2_with fail
        go_region_held3 (fun w' => w'.cell? ⟨C, i * 5 + 3, none⟩ = some (.slice (some ⟨gd, 0, none⟩) n1 cd) ∧ w'.cell? ⟨C, i * 5 + 4, none⟩ = some (.slice (some ⟨gl, 0, none⟩) n1 cl))
          (first | exact ⟨D3c, D4c⟩ | exact KQ | exact KP) (fail)
        rw [← hY]
        clear hY KP KQ KD D3c D4c K0c K1c ZK0c ZK1c
        have g0' : Y.drew.cell? ⟨R, 0, none⟩ = some (.int .i64 0) := g0
        have g1' : Y.drew.cell? ⟨R, 1, none⟩ = some (.int .i64 0) := g1
        go_wp2_with fail
        exact bodyPost_ret (v := ansV (s.alloc d).1) (by rw [HA.out]; simp [results, Try.results46, go_sem, ansV, (two_cells g0 g1 (.int .i64 (i : Int)) (.int .i64 (a : Int))).1, (two_cells g0 g1 (.int .i64 (i : Int)) (.int .i64 (a : Int))).2]) rfl ⟨rfl, o1, by
          rw [HA.out]; exact (HSL.out.fr ((Fr.set (T := fun t => t = (0, 0)) (a := ⟨R, 0, none⟩) HoR1.out _).trans (Fr.set (a := ⟨R, 1, none⟩) HoR1.out _)) (fun a e => hx (by injection e))).below (Below.refl _ _).drew, ((HFY.out.setNew (a := ⟨R, 0, none⟩) (by rw [← HR.out]; exact Nat.le_refl _) _).setNew (a := ⟨R, 1, none⟩) (by rw [← HR.out]; exact Nat.le_refl _) _).trans (Fr.drew1 _ o1 _)⟩
end Go.Proofs.Ytbflcnghpkmcoaa
