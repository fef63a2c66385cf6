/-
  MAILFAIR walked.
-/
import Derived.Test.YtpepklgahljhbaaRuns
import Derived.Test.YtpepklgahljhbaaFairP
namespace Go.Proofs.Ytpepklgahljhbaa
open Go.Conc Go.RowKit

theorem under47 : Try.prog.underlying 47 = some (.slice 22) := by kernel_rfl
theorem info22 : (Try.prog.info? 22).map (fun i => (i.zero, i.size, i.bytes)) = some (some (.pointer none), 1, 8) := by kernel_rfl
theorem OwnK.cells {w : World} {o : Nat → Nat × Nat} {t : Nat × Nat} {V : Value} {n : Nat} {l : List Value} (h : OwnK w o t 1 V n l) : CellR w o t V l := by
  have hl := h.1
  rcases h.2.2 with ⟨rfl, rfl⟩ | ⟨g, cap, e, h2, h3, h4, h5, h6, h7⟩
  · exact .inl ⟨rfl, List.eq_nil_of_length_eq_zero (by omega)⟩
  · rw [Nat.mul_one] at hl
    subst hl
    exact .inr ⟨g, 0, cap, e, h4, h2, h3, fun j u hu => by rw [Nat.zero_add]; exact h6 j _ hu⟩
/-- What may turn: all that is new. -/
def TN (t : Nat × Nat) : Prop := ¬ t = (0, 0)
/-- Six counts in a block of their own. -/
def Gv (w : World) (o : Nat → Nat × Nat) (G : Nat) (f : Nat → Nat) : Prop := o G = (3, 0) ∧ ∀ b, b < 6 → w.cell? ⟨G, b, none⟩ = some (.int .i64 ((f b : Nat) : Int)) ∧ w.frozen? ⟨G, b, none⟩ = false
theorem Gv.set {w : World} {o : Nat → Nat × Nat} {G : Nat} {f : Nat → Nat} (h : Gv w o G f) (b v : Nat) (hb : b < 6) : Gv (w.setCell ⟨G, b, none⟩ (.int .i64 ((v : Nat) : Int))) o G (fun c => if c = b then v else f c) := by
  refine ⟨h.1, fun c hc => ?_⟩
  simp only
  by_cases e : c = b
  · subst e
    rw [World.cell?_setCell_same _ _ _ (h.2 c hc).1, if_pos rfl]
    exact ⟨rfl, by rw [World.frozen?_setCell]; exact (h.2 c hc).2⟩
  · rw [World.cell?_setCell_other _ _ _ _ (fun x => e (by injection x with _ x; exact x.symm)), if_neg e]
    exact ⟨(h.2 c hc).1, by rw [World.frozen?_setCell]; exact (h.2 c hc).2⟩
theorem Gv.drewN {w : World} {o : Nat → Nat × Nat} {G : Nat} {f : Nat → Nat} (h : Gv w o G f) (n : Nat) : Gv (w.drewN n) o G f := h
/-- What each box gave, of the first p. -/
def gvc (k p b : Nat) : Nat := if b < k then cnt k p b else 0
theorem gvc_zero (k b : Nat) : gvc k 0 b = 0 := by
  unfold gvc cnt
  split
  · exact Nat.div_eq_of_lt (by omega)
  · rfl
theorem gvc_succ {k p : Nat} (h1 : 1 ≤ k) (h6 : k ≤ 6) (hp : p ≤ 60) : gvc k (p + 1) = fun c => if c = p % k then p / k + 1 else gvc k p c := by
  funext c
  obtain ⟨_, h⟩ := cnt_is h1 h6 hp
  have hm : p % k < k := Nat.mod_lt _ (by omega)
  unfold gvc
  by_cases hc : c < k
  · rw [if_pos hc, if_pos hc]; exact h c hc
  · rw [if_neg hc, if_neg hc, if_neg (by omega)]
theorem gvc_at {k p : Nat} (h1 : 1 ≤ k) (h6 : k ≤ 6) (hp : p ≤ 60) : gvc k p (p % k) = p / k := by
  unfold gvc
  rw [if_pos (Nat.mod_lt _ (by omega))]
  exact (cnt_is h1 h6 hp).1
theorem hund_div (b d : Nat) (hd : d < 100) : (100 * (b : Int) + (d : Int)).tdiv 100 = b := by rw [Int.tdiv_eq_ediv_of_nonneg (by omega)]; omega
theorem hund_mod (b d : Nat) (hd : d < 100) : (100 * (b : Int) + (d : Int)).tmod 100 = d := by rw [Int.tmod_eq_emod_of_nonneg (by omega)]; omega
set_option maxRecDepth 100000 in
set_option maxHeartbeats 8000000 in
theorem fair_walk (a b c : Int) (w : World) : Calls Try.prog 6 #[.int .i64 a, .int .i64 b, .int .i64 c] w fun e w' => e = .returned (.bool true) ∧ Below w.heap.size w w' := by
  go_enter Try.func6, Try.ntmps6
  go_wp2_with fail
  refine (within_any a 1 6 (by omega) (by omega) (by omega) _).mono ?_
  rintro e w1 ⟨rfl, rfl⟩
  obtain ⟨k, hk⟩ : ∃ k : Nat, wi a 1 6 = (k : Int) := ⟨(wi a 1 6).toNat, by have := wi_bd a 1 6 (by omega); omega⟩
  have k1 : 1 ≤ k := by have := wi_bd a 1 6 (by omega); omega
  have k6 : k ≤ 6 := by have := wi_bd a 1 6 (by omega); omega
  rw [hk]
  clear hk
  go_wp2_with fail
  refine (within_any b 0 8 (by omega) (by omega) (by omega) _).mono ?_
  rintro e w1 ⟨rfl, rfl⟩
  obtain ⟨m, hm⟩ : ∃ m : Nat, wi b 0 8 = (m : Int) := ⟨(wi b 0 8).toNat, by have := wi_bd b 0 8 (by omega); omega⟩
  have m8 : m ≤ 8 := by have := wi_bd b 0 8 (by omega); omega
  rw [hm]
  clear hm
  go_wp2_with fail
  go_loopw [9, 10] (fun V y wr => ∃ (i : Nat) (ps : List BP) (o1 : Nat → Nat × Nat) (va : Option Addr) (vc : Nat), i ≤ k ∧ V = .slice va i vc ∧ y = .int .i64 (i : Int) ∧ Hid (ps.length = i) ∧ Hid (OwnK wr o1 (8, 0) 1 (.slice va i vc) i (ps.map pv)) ∧ Hid (Bxs wr o1 ps (rowsF i m)) ∧ Hid (Fr TN o0 o1 w wr)) (fun _ y _ => k - (intOf y).toNat)
  case atStart => exact ⟨0, [], o0, _, _, by omega, rfl, rfl, rfl, OwnK.nil w o0 (8, 0) 1, Bxs.nil _ _, Fr.refl _ _ _⟩
  case round =>
    obtain ⟨i, ps, o1, va, vc, hi, rfl, rfl, HP, HO, HB, HF⟩ := hrel
    by_cases hlt : i < k
    · obtain ⟨W1, hW1⟩ : ∃ W1, W1 = wr := ⟨_, rfl⟩
      rw [← hW1] at HO HB HF ⊢
      clear hW1
      go_wp2_with fail
      go_loopw [11, 12] (fun V y wr => ∃ (j : Nat) (o2 : Nat → Nat × Nat) (xa : Option Addr) (xc : Nat), j ≤ m ∧ V = .slice xa j xc ∧ y = .int .i64 (j : Int) ∧ Hid (OwnK wr o2 (8, 1) 1 (.slice xa j xc) j (ic (row i j))) ∧ Hid (Fr (· = (8, 1)) o1 o2 W1 wr)) (fun _ y _ => m - (intOf y).toNat)
      case atStart => exact ⟨0, o1, _, _, by omega, rfl, rfl, OwnK.nil W1 o1 (8, 1) 1, Fr.refl _ _ _⟩
      case round =>
        obtain ⟨j, o2, xa, xc, hj, rfl, rfl, HR, HFr⟩ := hrel
        by_cases hlj : j < m
        · obtain ⟨v3, w3, o3, hrun, O3, F3⟩ := app_one (by decide) 36 3 (.int .i64 0) 8 under36 info3 (by kernel_rfl) HR.out [.int .i64 (100 * (i : Int) + (j : Int))] rfl (fun u hu => by simp at hu; rw [hu]; rfl) (by omega) (by omega)
          obtain ⟨a3, b3, rfl, _⟩ := O3.form
          have HR3 : Hid (OwnK w3 o3 (8, 1) 1 (.slice a3 (j + 1) b3) (j + 1) (ic (row i (j + 1)))) := by
            show OwnK _ _ _ _ _ _ _; rw [row_succ]; unfold ic; rw [List.map_append]; exact O3
          have HF3 : Hid (Fr (· = (8, 1)) o1 o3 W1 w3) := HFr.out.trans F3
          clear O3 F3 HR HFr
          go_wp2_with (at_builtin; refine wpList_append_run rfl (.tmp 32) (.tmp 37) 36 36 rfl _ _ _ rfl rfl hrun ?_)
          exact ⟨⟨j + 1, o3, a3, b3, by omega, rfl, by go_num, HR3, HF3⟩, by simp [intOf]; omega⟩
        · have hjm : j = m := by omega
          subst hjm
          have HM : Hid (Mk o2) := HFr.out.mks (HF.out.mks o0_mk)
          go_wp2_with fail
          refine (filled_any 9 9 rfl (row i j) (by omega) (by omega) (by rw [row_len]; omega) _ HM.out HR.out.row).mono ?_
          rintro e w4 ⟨b4, c4, o4, rfl, I4, F4, hc4⟩
          have HB4 : Hid (Bxs w4 o4 (ps ++ [some (b4, c4)]) (rowsF (i + 1) j)) := by
            show Bxs _ _ _ _
            rw [rowsF_succ]
            exact (HB.out.fr HFr.out (fun _ _ _ e => by cases e) (by decide)).snoc F4 I4 hc4
          have HO4 := (HO.out.fr HFr.out (by decide)).fr F4 id
          have HF4 : Hid (Fr TN o0 o4 w w4) := (HF.out.trans (HFr.out.mono (fun t e h => by rw [e] at h; cases h))).trans (F4.mono (fun _ h => h.elim))
          obtain ⟨v5, w5, o5, hrun, O5, F5⟩ := app_one (by decide) 47 22 (.pointer none) 8 under47 info22 (by kernel_rfl) HO4 [.pointer (some ⟨b4, 0, none⟩)] rfl (fun u hu => by simp at hu; rw [hu]; rfl) (by omega) (by omega)
          obtain ⟨a5, d5, rfl, _⟩ := O5.form
          have HO5 : Hid (OwnK w5 o5 (8, 0) 1 (.slice a5 (i + 1) d5) (i + 1) ((ps ++ [some (b4, c4)]).map pv)) := by
            show OwnK _ _ _ _ _ _ _; rw [List.map_append]; exact O5
          have HB5 : Hid (Bxs w5 o5 (ps ++ [some (b4, c4)]) (rowsF (i + 1) j)) := HB4.out.fr F5 (fun _ _ _ e => by cases e) (by decide)
          have HF5 : Hid (Fr TN o0 o5 w w5) := HF4.out.trans (F5.mono (fun t e h => by rw [e] at h; cases h))
          have HP5 : Hid ((ps ++ [some (b4, c4)]).length = i + 1) := by show _ = _; rw [List.length_append, HP.out]; rfl
          obtain ⟨ps5, hps5⟩ : ∃ x, x = ps ++ [some (b4, c4)] := ⟨_, rfl⟩
          rw [← hps5] at HO5 HB5 HP5
          clear hps5 HO HB HF HR HFr HM I4 F4 hc4 HB4 HO4 HF4 O5 F5 HP
          go_wp2_with (at_builtin; refine wpList_append_run rfl (.tmp 39) (.tmp 42) 47 47 rfl _ _ _ rfl rfl hrun ?_)
          exact ⟨⟨i + 1, ps5, o5, a5, d5, by omega, rfl, by go_num, HP5, HO5, HB5, HF5⟩, by simp [intOf]; omega⟩
    · have hik : i = k := by omega
      subst hik
      go_wp2_with fail
      refine (within_any c 0 60 (by omega) (by omega) (by omega) _).mono ?_
      rintro e w1 ⟨rfl, rfl⟩
      obtain ⟨x, hx⟩ : ∃ x : Nat, wi c 0 60 = (x : Int) := ⟨(wi c 0 60).toNat, by have := wi_bd c 0 60 (by omega); omega⟩
      have x60 : x ≤ 60 := by have := wi_bd c 0 60 (by omega); omega
      rw [hx]
      clear hx
      go_wp2_with fail
      refine (drain_any (x : Int) ps (rowsF i m) _ HB.out HO.out.cells (TB.no (by decide) (by decide)) (by rw [HP.out]; omega) (by rw [rowsF_tot]; have := Nat.mul_le_mul k6 m8; omega)).mono ?_
      rintro e w2 ⟨V2, o2, mm, rfl, hfx, O2, B2, F2⟩
      rw [show ((x : Int)).toNat = x from by omega, HP.out] at hfx O2
      obtain ⟨q1, q2⟩ := fair_is k1 k6 m8 x60
      rw [itr_one hfx q1, q2] at O2
      obtain ⟨M, hM⟩ : ∃ M, M = min x (i * m) := ⟨_, rfl⟩
      rw [← hM] at O2
      have M60 : M ≤ 60 := by omega
      have HMM : Hid (M = min x (i * m)) := hM
      have HF2 : Hid (Fr TN o0 o2 w w2) := HF.out.trans (F2.mono (fun t h e => TB.no (by decide) (by decide) (e ▸ h)))
      rw [show (List.map (tgF i) (List.range M)).length = M by simp] at O2
      obtain ⟨a2, d2, rfl, _⟩ := O2.form
      have HO2 : Hid (OwnK w2 o2 (7, 2) 9 (.slice a2 M d2) M (fc ((List.map (tgF i) (List.range M)).map fo))) := O2
      clear hfx O2 B2 F2 q1 q2 hM HP HO HB HF
      go_wp2_with fail
      refine (rids_any (t := (7, 2)) ((List.map (tgF i) (List.range M)).map fo) (by simp; omega) (by decide) _ (by rw [show ((List.map (tgF i) (List.range M)).map fo).length = M by simp]; exact HO2.out)).mono ?_
      rintro e w3 ⟨V3, o3, rfl, O3, F3⟩
      rw [show ((List.map (tgF i) (List.range M)).map fo).length = M by simp, show ((List.map (tgF i) (List.range M)).map fo).map F.rid = List.map (tgF i) (List.range M) by simp [fo, Function.comp_def]] at O3
      obtain ⟨a3, d3, rfl, _⟩ := O3.form
      have HF3 := HF2.out.trans (F3.mono (fun t h e => by rw [h] at e; cases e))
      have HO3 := O3.row
      have FG : Fr (fun _ => False) o3 (lab o3 w3.heap.size (3, 0)) w3 (w3.alloc (.cells #[.int .i64 0, .int .i64 0, .int .i64 0, .int .i64 0, .int .i64 0, .int .i64 0] 50)) := Fr.new _ _ _ _ _ (fun x => absurd x (by decide))
      obtain ⟨o4, ho4⟩ : ∃ x, x = lab o3 w3.heap.size (3, 0) := ⟨_, rfl⟩
      rw [← ho4] at FG
      have HG : Hid (Gv (w3.alloc (.cells #[.int .i64 0, .int .i64 0, .int .i64 0, .int .i64 0, .int .i64 0, .int .i64 0] 50)) o4 w3.heap.size (gvc i 0)) := by
        refine ⟨by rw [ho4]; exact lab_same _ _ _, fun b hb => ⟨?_, World.frozen?_alloc_new _ _ _ _⟩⟩
        rw [World.cell?_alloc_new, gvc_zero]
        have : b = 0 ∨ b = 1 ∨ b = 2 ∨ b = 3 ∨ b = 4 ∨ b = 5 := by omega
        rcases this with rfl | rfl | rfl | rfl | rfl | rfl <;> rfl
      have HO4 : Hid (IntR (w3.alloc (.cells #[.int .i64 0, .int .i64 0, .int .i64 0, .int .i64 0, .int .i64 0, .int .i64 0] 50)) o4 (7, 1) (.slice a3 M d3) (List.map (tgF i) (List.range M))) := HO3.fr FG id
      have HF4 : Hid (Fr TN o0 o4 w (w3.alloc (.cells #[.int .i64 0, .int .i64 0, .int .i64 0, .int .i64 0, .int .i64 0, .int .i64 0] 50))) := HF3.trans (FG.mono (fun _ h => h.elim))
      clear HO3 HF3 FG ho4 O3 F3 HF2 HO2
      go_wp2_with fail
      obtain ⟨W, hW⟩ : ∃ W, W = w3.alloc (.cells #[.int .i64 0, .int .i64 0, .int .i64 0, .int .i64 0, .int .i64 0, .int .i64 0] 50) := ⟨_, rfl⟩
      obtain ⟨G, hG⟩ : ∃ G, G = w3.heap.size := ⟨_, rfl⟩
      rw [← hW] at HG HO4 HF4 ⊢
      rw [← hG] at HG ⊢
      clear hW hG
      go_loopw [16] (fun y wr => ∃ p : Nat, p ≤ M ∧ y = .int .i64 (p : Int) ∧ Hid (Gv wr o4 G (gvc i p)) ∧ Hid (Fr (· = (3, 0)) o4 o4 W wr)) (fun y _ => M - (intOf y).toNat)
      case atStart => exact ⟨0, by omega, rfl, HG, Fr.refl _ _ _⟩
      case round =>
        clear HG
        obtain ⟨p, hp, rfl, HGv, HFp⟩ := hrel
        by_cases hpl : p < M
        · obtain ⟨g, off, e1, d1⟩ := (HO4.out.fr HFp.out (by decide)).read (show (List.map (tgF i) (List.range M))[p]? = some (tgF i p) by simp [hpl])
          subst e1
          obtain ⟨bq, hbq⟩ : ∃ bq, bq = p % i := ⟨_, rfl⟩
          obtain ⟨dq, hdq⟩ : ∃ dq, dq = p / i := ⟨_, rfl⟩
          have b6 : bq < i := by rw [hbq]; exact Nat.mod_lt _ (by omega)
          have d100 : dq < 100 := by rw [hdq]; exact Nat.lt_of_le_of_lt (Nat.div_le_self _ _) (by omega)
          have et : tgF i p = 100 * (bq : Int) + (dq : Int) := by rw [hbq, hdq]; rfl
          have q1 : (tgF i p).tdiv 100 = (bq : Int) := by rw [et]; exact hund_div bq dq d100
          have q2 : (tgF i p).tmod 100 = (dq : Int) := by rw [et]; exact hund_mod bq dq d100
          have q3 : ((p : Int)).tmod (i : Int) = (bq : Int) := by rw [hbq, Int.tmod_eq_emod_of_nonneg (by omega)]; exact (Int.natCast_emod p i).symm
          have q0 : 0 ≤ tgF i p ∧ tgF i p ≤ 1000 := by omega
          obtain ⟨c1, z1⟩ := HGv.out.2 bq (by omega)
          rw [show gvc i p bq = dq by rw [hbq, hdq]; exact gvc_at k1 k6 (by omega)] at c1
          have HG2 : Hid (∀ n, Gv ((wr.drewN n).setCell ⟨G, bq, none⟩ (.int .i64 ((dq : Int) + 1))) o4 G (gvc i (p + 1))) := fun n => by
            rw [gvc_succ k1 k6 (by omega), ← hbq, ← hdq]
            exact (HGv.out.drewN n).set bq (dq + 1) (by omega)
          have HF5 : Hid (∀ n, Fr (· = (3, 0)) o4 o4 W ((wr.drewN n).setCell ⟨G, bq, none⟩ (.int .i64 ((dq : Int) + 1)))) := fun n => (HFp.out.trans (Fr.drewN _ _ _ n)).trans (Fr.set (a := ⟨G, bq, none⟩) HGv.out.1 _)
          obtain ⟨t, ht⟩ : ∃ t, t = tgF i p := ⟨_, rfl⟩
          rw [← ht] at d1 q1 q2 q0
          have hi1 : (p : Int) < (M : Int) := by omega
          clear hbq hdq et ht HGv HFp hi hlt
          have g0 : decide ((bq : Int) < 0) = false := by simp
          have g1 : decide ((i : Int) ≤ (bq : Int)) = false := by simp; omega
          have g2 : ((dq : Int) != (dq : Int)) = false := by simp
          have g3 : ((bq : Int) != (bq : Int)) = false := by simp
          have w1 : IntKind.i64.wrap (t.tmod 100) = (dq : Int) := by rw [q2, IntKind.wrap_i64]; omega
          have w2 : IntKind.i64.wrap (((p : Int)).tmod (i : Int)) = (bq : Int) := by rw [q3, IntKind.wrap_i64]; omega
          have n1 : ((i : Int) == 0) = false := by simp; omega
          have n2 : ¬ ((i : Int) = 0) := by omega
          have n3 : ¬ ((i : Int) = -1) := by omega
          have hb6 : (bq : Int) < 6 := by omega
          have hbi : (bq : Int) < (i : Int) := by omega
          have ip : (0 : Int) < (i : Int) := by omega
          have n4 : ¬ (i = 0) := by omega
          go_wp2_with fail
          go_quiet (fail)
          go_wp2_with fail
          exact ⟨⟨p + 1, by omega, by go_num, HG2.out _, HF5.out _⟩, by simp [intOf]; omega⟩
        · have hpm : p = M := by omega
          subst hpm
          have HF6 : Hid (Fr TN o0 o4 w wr) := HF4.out.trans (HFp.out.mono (fun t e h => by rw [e] at h; cases h))
          obtain ⟨q, hq⟩ : ∃ q, q = i * m := ⟨_, rfl⟩
          have hpq := HMM.out
          rw [← hq] at hpq
          have q48 : q ≤ 48 := by rw [hq]; exact Nat.mul_le_mul k6 m8
          have e1 : (i : Int) * (m : Int) = (q : Int) := by rw [hq]; exact (Int.natCast_mul i m).symm
          clear HF4 HFp HGv HO4 hi hlt HMM hq
          by_cases hxq : x ≤ q
          · have hpx : p = x := by omega
            clear hpq
            subst hpx
            go_wp2_with fail
            refine (runs_any _).mono ?_
            rintro e w9 ⟨rfl, B9⟩
            go_wp2_with fail
            go_ret
            exact ⟨rfl, (HF6.out.trans (Fr.ofBelow _ _ B9)).below (Nat.le_refl _) (fun b _ h => h rfl)⟩
          · have hpx : p = q := by omega
            clear hpq
            subst hpx
            go_wp2_with fail
            refine (runs_any _).mono ?_
            rintro e w9 ⟨rfl, B9⟩
            go_wp2_with fail
            go_ret
            exact ⟨rfl, (HF6.out.trans (Fr.ofBelow _ _ B9)).below (Nat.le_refl _) (fun b _ h => h rfl)⟩
end Go.Proofs.Ytpepklgahljhbaa
