/-
  THE REFERENCE'S step.
-/
import Derived.Test.YtaflabjeddckeaaRNew
namespace Go.Proofs.Ytaflabjeddckeaa
open Go.RowKit

theorem rhash_n (k : ByteArray) (hk : k.size ≤ 140737488355328) (H : Nat) (hH : H = hsn k) (w : World) : Calls Try.prog 16 #[.string k] w fun e w' => e = .returned (.int .u32 ((H : Nat) : Int)) ∧ w' = w :=
  (rhash_any k hk w).mono fun e w' ⟨h1, h2⟩ => ⟨by rw [h1, hsn_eq, hH], h2.symm⟩
set_option maxHeartbeats 2000000 in
theorem rstep_any (x C : Nat) (a : A) (K : List ByteArray) (hK : Dom a K) (w : World) (o : Nat → Nat × Nat) (h : IsRef w o x C a) :
    Calls Try.prog 29 #[.pointer (some ⟨C, 0, none⟩)] w fun e w' => e = .returned (.tuple #[]) ∧ ∃ o', IsRef w' o' x C a.step ∧ Fr (fun t => t.1 = x) o o' w w' := by
  obtain ⟨B, G, h⟩ := h
  have c1 := h.c1
  have c2 := h.c2
  have HC : Hid (IsR w o x C a B G) := h
  by_cases hm : a.m = 0
  · rw [hm] at c1
    replace c1 : w.cell? ⟨C, 1, none⟩ = some (.slice none 0 0) := c1
    have es : a.step = a := by unfold A.step; rw [if_pos hm]
    rw [es]
    clear h es hm
    go_enter Try.func29, Try.ntmps29
    go_wp2_with fail
    exact bodyPost_ret (v := .tuple #[]) (by simp [results, Try.results29, go_sem]) rfl ⟨rfl, o, ⟨B, G, HC.out⟩, Fr.refl _ _ _⟩
  · rw [oldV_pos hm] at c1
    have hok := h.has.ok
    have hm2 : a.m ≤ 8192 := by have := hok.2.1; have := hok.2.2; omega
    have hmv : a.mv < a.m := by have := hok.2.2; omega
    have hn0 := hok.1
    have hn2 := hok.2.1
    have e0 : ((a.m : Int) == 0) = false := by simp; omega
    have ji : (a.mv : Int) < (a.m : Int) := by omega
    have ro : RowB w o x (G false) a.m (B false) := h.row false (by show 0 < a.m; omega)
    obtain ⟨v0, g1, ow⟩ := ro.bk a.mv hmv
    obtain ⟨va, vc, rfl, _⟩ := ow.form
    have g2 := ro.fz a.mv hmv
    have z2 := h.fz 2
    have HM : Hid (a.m ≠ 0) := hm
    have HOK : Hid a.Ok := hok
    have hGC : G false ≠ C := fun e => by have h1 := ro.og; rw [e, h.oC] at h1; unfold mA at h1; injection h1 with _ h1; omega
    have hsh := h.has.short hK (r := false) (i := a.mv) hmv
    have HOW0 : Hid (OwnK w o (mB x a.m a.mv) 2 (.slice va (B false a.mv).length vc) (B false a.mv).length (kvc (B false a.mv))) := ow
    obtain ⟨L, hL⟩ : ∃ L, L = B false a.mv := ⟨_, rfl⟩
    have HL : Hid (L = B false a.mv) := hL
    rw [← hL] at g1 ow hsh
    obtain ⟨n, hn⟩ : ∃ n, n = L.length := ⟨_, rfl⟩
    have HN : Hid (n = L.length) := hn
    rw [← hn] at g1 ow hsh
    have HB0 : Hid ((B false a.mv).length = n) := by show _ = _; rw [hn, hL]
    clear h ro hok hm ow hL hn
    go_enter Try.func29, Try.ntmps29
    go_wp2_with fail
    go_quiet (fail)
    go_wp2_with fail
    go_region
    all_goals go_wp2_with fail
    obtain ⟨W1, hW1⟩ : ∃ W1, W1 = ((w.drewN (nq + 1)).setCell ⟨G false, a.mv, none⟩ (.slice none 0 0)).setCell ⟨C, 2, none⟩ (.int .i64 ((a.mv : Int) + 1)) := ⟨_, rfl⟩
    have hd : Below w.heap.size w (w.drewN (nq + 1)) := below_drewN (Below.refl _ _) (nq + 1)
    have st := RMv.start (v0 := .slice va n vc) (HC.out.below hd) HM.out (by rw [← HB0.out]; exact HOW0.out.below hd)
    have fs : Fr (· = (x, 0)) o o ((w.drewN (nq + 1)).setCell ⟨G false, a.mv, none⟩ (.slice none 0 0)) W1 := by rw [hW1]; exact Fr.set (a := ⟨C, 2, none⟩) HC.out.oC _
    have M1 : Hid (RMv W1 o x a B G (.slice va n vc) [] (B false a.mv) (B true)) := st.1.fr HOK.out HM.out fs (fun q e => by unfold mA at e; injection e with _ e; omega) (fun q i e => by unfold mB at e; injection e with _ e; omega)
    have F1 : Hid (Fr (fun t => t.1 = x) o o w W1) := ((Fr.drewN _ o w (nq + 1)).trans st.2).trans (fs.mono (fun t e => by rw [e]))
    have cS : ∀ j, ((w.drewN (nq + 1)).setCell ⟨G false, a.mv, none⟩ (.slice none 0 0)).cell? ⟨C, j, none⟩ = w.cell? ⟨C, j, none⟩ := fun j => World.cell?_of_block (a := ⟨C, j, none⟩) ((blk_set (w.drewN (nq + 1)) ⟨G false, a.mv, none⟩ _ (fun e => hGC e.symm)).trans rfl)
    have D0 : Hid (W1.cell? ⟨C, 0, none⟩ = some (.slice (some ⟨G true, 0, none⟩) a.n a.n)) := by
      show _ = _
      rw [hW1, World.cell?_setCell_other _ _ _ _ (fun e => by injection e with _ e; cases e), cS]; exact HC.out.c0
    have D1 : Hid (W1.cell? ⟨C, 1, none⟩ = some (.slice (some ⟨G false, 0, none⟩) a.m a.m)) := by
      show _ = _
      rw [hW1, World.cell?_setCell_other _ _ _ _ (fun e => by injection e with _ e; cases e), cS]; exact c1
    have D2 : Hid (W1.cell? ⟨C, 2, none⟩ = some (.int .i64 ((a.mv : Int) + 1))) := by
      show _ = _
      rw [hW1]; exact World.cell?_setCell_same _ _ _ ((cS 2).trans c2)
    have D3 : Hid (W1.cell? ⟨C, 3, none⟩ = some (.int .i64 a.keys)) := by
      show _ = _
      rw [hW1, World.cell?_setCell_other _ _ _ _ (fun e => by injection e with _ e; cases e), cS]; exact HC.out.c3
    have DZ : Hid (∀ j, W1.frozen? ⟨C, j, none⟩ = false) := fun j => by
      rw [hW1, World.frozen?_setCell, World.frozen?_setCell]; exact HC.out.fz j
    have HCl : Hid (C < W1.heap.size) := World.block_lt_of_cell? _ _ D0.out
    rw [← hW1]
    clear hW1 g1 g2 c1 c2 st fs hd cS z2
    go_loopw [3] (fun y wr => ∃ (i : Nat) (pre post : List KV) (N : Nat → List KV) (o2 : Nat → Nat × Nat), y = .int .i64 (i : Int) ∧ i ≤ n ∧ Hid (i = pre.length) ∧ Hid (RMv wr o2 x a B G (.slice va n vc) pre post N) ∧ Hid (Fr (fun t => t.1 = x) o o2 w wr) ∧ Hid (o2 C = (x, 0)) ∧ Hid (wr.heap[C]? = W1.heap[C]?)) (fun y _ => n - (intOf y).toNat)
    case atStart => exact ⟨0, [], B false a.mv, B true, o, rfl, by omega, rfl, M1, F1, HC.out.oC, rfl⟩
    case round =>
      clear M1 F1
      obtain ⟨i, pre, post, N, o2, rfl, hi, HI, HMv, HF, oC, HCc⟩ := hrel
      have c0 := (World.cell?_of_block (a := ⟨C, 0, none⟩) HCc.out).trans D0.out
      have c1 := (World.cell?_of_block (a := ⟨C, 1, none⟩) HCc.out).trans D1.out
      have c2 := (World.cell?_of_block (a := ⟨C, 2, none⟩) HCc.out).trans D2.out
      have z0 := (World.frozen?_of_block (a := ⟨C, 0, none⟩) HCc.out).trans (DZ.out 0)
      have z1 := (World.frozen?_of_block (a := ⟨C, 1, none⟩) HCc.out).trans (DZ.out 1)
      have z2 := (World.frozen?_of_block (a := ⟨C, 2, none⟩) HCc.out).trans (DZ.out 2)
      by_cases hlt : i < n
      · have k1 : (i : Int) < (n : Int) := by omega
        have hpost : ∃ p t, post = p :: t := by
          cases post with
          | nil => have := HMv.out.he; rw [List.append_nil] at this; have h2 := HB0.out; rw [this, ← HI.out] at h2; omega
          | cons p t => exact ⟨p, t, rfl⟩
        obtain ⟨p, t, rfl⟩ := hpost
        have hp : L[i]? = some p := by rw [HL.out, HMv.out.he, HI.out]; simp
        have hpm : p ∈ B false a.mv := by rw [HMv.out.he]; simp
        have hks := HC.out.has.ksz hK (r := false) hmv hpm
        have owl := HMv.out.ow
        rw [HB0.out, ← HL.out] at owl
        obtain ⟨g, c, eg, og, gl, _, _, hcell, _⟩ := owl.there (by omega)
        injection eg with e1 _ e3
        subst e1 e3
        obtain ⟨q1, q2⟩ := kvc_at _ _ _ hp
        have y1 := hcell _ _ q1
        have y2 := hcell _ _ q2
        obtain ⟨j, hj⟩ : ∃ j, j = hsn p.1 % a.n := ⟨_, rfl⟩
        have HJ : Hid (j = hsn p.1 % a.n) := hj
        have hjn : j < a.n := by rw [hj]; exact Nat.mod_lt _ hn0
        have jn : (j : Int) < (a.n : Int) := by omega
        have hh := hsn_lt p.1
        obtain ⟨H, hH⟩ : ∃ H, H = hsn p.1 := ⟨_, rfl⟩
        have HH : Hid (H = hsn p.1) := hH
        rw [← hH] at hh
        have hwn : ((H : Nat) : Int).tmod (a.n : Int) = (j : Int) := by
          rw [hj, hH, Int.natCast_emod, Int.tmod_eq_emod_of_nonneg (by omega)]
        have hw2 : IntKind.i64.wrap ((H : Int).tmod (a.n : Int)) = (j : Int) := by rw [hwn, IntKind.wrap_i64]; omega
        clear hH
        have f0 : ((a.n : Int) == 0) = false := by simp; omega
        have f1 : ¬ ((a.n : Int) = 0) := by omega
        have f2 : ¬ ((a.n : Int) = -1) := by omega
        clear hcell q1 q2 hp hpm owl hj
        go_wp2_with fail
        go_quiet ((go_at_call 16; exact Calls.quiet_of_same (rhash_n p.1 hks H HH.out _)))
        go_wp2_with fail
        obtain ⟨W8, hW8⟩ : ∃ W8, W8 = wr.drewN nq := ⟨_, rfl⟩
        have hd8 : Below wr.heap.size wr W8 := by rw [hW8]; exact below_drewN (Below.refl _ _) nq
        have HC8 : Hid (W8.heap[C]? = W1.heap[C]?) := by show _ = _; rw [hW8]; exact HCc.out
        rw [← hW8]
        clear hW8
        have F8 : ∀ U, Fr U o2 o2 wr W8 := fun U => Fr.ofBelow U o2 hd8
        have M8 : RMv W8 o2 x a B G (.slice (some ⟨g, 0, none⟩) n vc) pre (p :: t) N := HMv.out.fr HOK.out HM.out (F8 (fun _ => False)) (fun _ h => h) (fun _ _ h => h)
        have d8 : Below W8.heap.size W8 W8.drew := (Below.refl _ _).drew
        have M9 : RMv W8.drew o2 x a B G (.slice (some ⟨g, 0, none⟩) n vc) pre (p :: t) N := M8.fr HOK.out HM.out (Fr.ofBelow (fun _ => False) o2 d8) (fun _ h => h) (fun _ _ h => h)
        obtain ⟨bv, hbv, ob⟩ := M9.rn.bk j hjn
        have hbz := M9.rn.fz j hjn
        obtain ⟨ba, bc, rfl, _⟩ := ob.form
        have hln := M9.short HC.out.has HM.out hK hjn
        obtain ⟨v3, w3, o3, hrun, O3, F3⟩ := app_one 66 68 (.agg #[.string ⟨#[]⟩, .int .i64 0]) 24 under66 info68 (by kernel_rfl) ob [.string p.1, .int .i64 p.2] rfl (fun x hx => by simp at hx; rcases hx with rfl | rfl <;> rfl) (by omega) (by omega)
        obtain ⟨a3, c3, rfl, _⟩ := O3.form
        have O3' : OwnK w3 o3 (mB x a.n (hsn p.1 % a.n)) 2 (.slice a3 ((N j).length + 1) c3) (N (hsn p.1 % a.n) ++ [p]).length (kvc (N (hsn p.1 % a.n) ++ [p])) := by
          rw [← HJ.out, kvc_append, List.length_append]; exact O3
        have F3' : Fr (· = mB x a.n (hsn p.1 % a.n)) o2 o3 W8.drew w3 := by rw [← HJ.out]; exact F3
        have ad := M9.add HC.out.has HM.out F3' O3'
        rw [← HJ.out] at ad
        have hGt : o2 (G true) = mA x a.n := M8.rn.og
        have nC : ¬ (o2 C = mB x a.n j) := by rw [oC.out]; intro e; unfold mB at e; injection e with _ e; omega
        have nG : ¬ (o2 (G true) = mB x a.n j) := by rw [hGt]; intro e; unfold mA mB at e; injection e with _ e; omega
        have hCG : G true ≠ C := fun e => by rw [e, oC.out] at hGt; unfold mA at hGt; injection hGt with _ hGt; omega
        have x0 : W8.cell? ⟨C, 0, none⟩ = some (.slice (some ⟨G true, 0, none⟩) a.n a.n) := (World.cell?_of_block (a := ⟨C, 0, none⟩) HC8.out).trans D0.out
        have x1 := cell_up hd8 y1
        have x2 := cell_up hd8 y2
        have hal : Below W8.heap.size W8 (W8.alloc (.cells #[.string p.1, .int .i64 p.2] 68)) := (Below.refl _ _).alloc (Nat.le_refl _) _
        have hbv8 : W8.cell? ⟨G true, j, none⟩ = some (.slice ba (N j).length bc) := hbv
        have x0' := cell_up hal x0
        have x3' := cell_up hal hbv8
        have x1' := cell_up hal x1
        have x2' := cell_up hal x2
        have x0'' : w3.cell? ⟨C, 0, none⟩ = some (.slice (some ⟨G true, 0, none⟩) a.n a.n) := F3.cell (show W8.drew.cell? ⟨C, 0, none⟩ = _ from x0) nC
        have x3'' : w3.cell? ⟨G true, j, none⟩ = some (.slice ba (N j).length bc) := F3.cell hbv nG
        have xz : w3.frozen? ⟨G true, j, none⟩ = false := (F3.frozen (World.block_lt_of_cell? _ _ hbv) nG).trans hbz
        have x0f : (w3.setCell ⟨G true, j, none⟩ (.slice a3 ((N j).length + 1) c3)).cell? ⟨C, 0, none⟩ = some (.slice (some ⟨G true, 0, none⟩) a.n a.n) := by
          rw [World.cell?_setCell_other _ _ _ _ (fun e => hCG (by injection e))]; exact x0''
        have hCw : C < W8.heap.size := World.block_lt_of_cell? _ _ x0
        have HAD : Hid (RMv (w3.setCell ⟨G true, j, none⟩ (.slice a3 ((N j).length + 1) c3)) o3 x a B G (.slice (some ⟨g, 0, none⟩) n vc) (pre ++ [p]) t (updN N j (N j ++ [p]))) := ad.1
        have HFF : Hid (Fr (fun t => t.1 = x) o o3 w (w3.setCell ⟨G true, j, none⟩ (.slice a3 ((N j).length + 1) c3))) := ((HF.out.trans (F8 _)).trans (Fr.drew1 _ o2 W8)).trans ad.2
        have HO3 : Hid (o3 C = (x, 0)) := by show _ = _; rw [F3.lab C hCw]; exact oC.out
        have HC3 : Hid ((w3.setCell ⟨G true, j, none⟩ (.slice a3 ((N j).length + 1) c3)).heap[C]? = W1.heap[C]?) := by
          show _ = _
          rw [blk_set _ _ _ (fun e => hCG e.symm), F3.block C hCw nC]; exact HC8.out
        have HI3 : Hid (i + 1 = (pre ++ [p]).length) := by show _ = _; rw [HI.out]; simp
        clear M8 M9 ad O3 O3' F3 F3' F8 hd8 d8 ob hal HMv HF HCc HC8 c0 c1 c2 z0 z1 z2 y1 y2 hbv hbz oC hGt nC nG
        go_region_law (refine step_app rfl (.tmp 67) (.tmp 72) 66 66 rfl _ _ _ rfl rfl hrun ?_)
        all_goals
          go_wp2_with fail
          exact ⟨⟨i + 1, pre ++ [p], t, _, o3, by go_num, by omega, HI3, HAD, HFF, HO3, HC3⟩, by simp [intOf]; omega⟩
      · have k1 : decide ((i : Int) < (n : Int)) = false := by simp; omega
        have hin : i = n := by omega
        have hpost : post = [] := by
          have h1 := HMv.out.he
          have h2 := HB0.out
          rw [h1, List.length_append, ← HI.out] at h2
          exact List.eq_nil_of_length_eq_zero (by omega)
        subst hpost
        clear hin
        have oC1 : (o2 C).1 = x := by rw [oC.out]
        have c0 := c0
        have c3 := (World.cell?_of_block (a := ⟨C, 3, none⟩) HCc.out).trans D3.out
        have HZ : Hid (∀ j, wr.frozen? ⟨C, j, none⟩ = false) := fun j => (World.frozen?_of_block (a := ⟨C, j, none⟩) HCc.out).trans (DZ.out j)
        by_cases hlast : a.mv + 1 = a.m
        · have l1 : ((a.mv : Int) + 1 == (a.m : Int)) = true := by simp; omega
          have HLa : Hid (a.mv + 1 = a.m) := hlast
          clear hlast
          go_wp2_with fail
          go_quiet (fail)
          go_wp2_with fail
          have es : a.step = { a with m := 0, mv := 0 } := by unfold A.step; rw [if_neg HM.out, if_pos HLa.out]
          obtain ⟨Y, hY⟩ : ∃ Y, Y = ((wr.drewN nq).setCell ⟨C, 1, none⟩ (.slice none 0 0)).setCell ⟨C, 2, none⟩ (.int .i64 0) := ⟨_, rfl⟩
          have fs : Fr (· = (x, 0)) o2 o2 wr Y := by
            rw [hY]
            exact ((Fr.drewN _ o2 wr nq).trans (Fr.set (a := ⟨C, 1, none⟩) oC.out _)).trans (Fr.set (a := ⟨C, 2, none⟩) oC.out _)
          have dd : ∀ j, j ≠ 1 → j ≠ 2 → Y.cell? ⟨C, j, none⟩ = wr.cell? ⟨C, j, none⟩ := fun j h0 h1 => by
            rw [hY, World.cell?_setCell_other _ _ _ _ (fun e => h1 (by injection e with _ e; exact e.symm)), World.cell?_setCell_other _ _ _ _ (fun e => h0 (by injection e with _ e; exact e.symm))]; rfl
          have MY : RMv Y o2 x a B G (.slice va n vc) pre [] N := HMv.out.fr HOK.out HM.out fs (fun q e => by unfold mA at e; injection e with _ e; omega) (fun q i e => by unfold mB at e; injection e with _ e; omega)
          rw [← hY]
          refine bodyPost_end (v := .tuple #[]) (by simp [results, Try.results29, go_sem]) rfl ⟨rfl, o2, MY.isR HC.out.has HM.out oC.out ((dd 0 (by decide) (by decide)).trans c0) ?_ ?_ ((dd 3 (by decide) (by decide)).trans c3) (fun j => ?_), HF.out.trans (fs.mono (fun t e => by rw [e]))⟩
          · rw [es, hY, World.cell?_setCell_other _ _ _ _ (fun e => by injection e with _ e; cases e)]
            exact World.cell?_setCell_same _ _ _ (show (wr.drewN nq).cell? _ = _ from c1)
          · rw [es, hY]
            exact World.cell?_setCell_same _ _ _ ((World.cell?_setCell_other _ _ _ _ (fun e => by injection e with _ e; cases e)).trans (show (wr.drewN nq).cell? _ = _ from c2))
          · rw [hY, World.frozen?_setCell, World.frozen?_setCell]; exact HZ.out j
        · have l1 : ((a.mv : Int) + 1 == (a.m : Int)) = false := by simp; omega
          have HLa : Hid (a.mv + 1 ≠ a.m) := hlast
          clear hlast
          go_wp2_with fail
          go_quiet (fail)
          go_wp2_with fail
          have es : a.step = { a with mv := a.mv + 1 } := by unfold A.step; rw [if_neg HM.out, if_neg HLa.out]
          have fs : Fr (fun _ => False) o2 o2 wr (wr.drewN nq) := Fr.drewN _ o2 wr nq
          have MY : RMv (wr.drewN nq) o2 x a B G (.slice va n vc) pre [] N := HMv.out.fr HOK.out HM.out fs (fun _ h => h) (fun _ _ h => h)
          refine bodyPost_end (v := .tuple #[]) (by simp [results, Try.results29, go_sem]) rfl ⟨rfl, o2, MY.isR HC.out.has HM.out oC.out c0 ?_ ?_ c3 HZ.out, HF.out.trans (Fr.drewN _ o2 wr nq)⟩
          · rw [es]; exact c1.trans (by rw [oldV_pos HM.out])
          · rw [es]; exact c2
end Go.Proofs.Ytaflabjeddckeaa
