/-
  ITEMPLAYS walked.
-/
import Derived.Test.YtbflcnghpkmcoaaDuo
import Derived.Test.YtbflcnghpkmcoaaLed
namespace Go.Proofs.Ytbflcnghpkmcoaa
open Go.RowKit

theorem nD70 : ((7 : Nat), (0 : Nat)) ≠ (0, 0) := by decide
theorem same_n {n m g : Nat} (h1 : ∀ i, i < n ↔ sz i ≤ g) (h2 : ∀ i, i < m ↔ sz i ≤ g) : n = m := by
  by_cases e : n < m
  · have := (h1 n).2 ((h2 n).1 e); omega
  · by_cases e2 : m < n
    · have := (h2 m).2 ((h1 m).1 e2); omega
    · omega
theorem free_pages (s : St) (c k : Int) : (s.free c k).pages = s.pages := (s.free_same c k).2.1
theorem alloc_pages (s : St) (d : ByteArray) : (s.alloc d).2.pages = s.pages := by
  unfold St.alloc
  split
  · rfl
  · split
    · split <;> rfl
    · rfl
theorem drop_pages (z : Sp) (key : ByteArray) : (z.drop key).s.pages = z.s.pages := by
  unfold Sp.drop
  split
  · rfl
  · exact free_pages _ _ _
theorem touch_pages (z : Sp) (key : ByteArray) : (z.touch key).s.pages = z.s.pages := by unfold Sp.touch; split <;> rfl
theorem put_pages (z : Sp) (key d : ByteArray) (pin : Bool) : (z.put key d pin).2.2.s.pages = z.s.pages := by
  unfold Sp.put
  rw [← drop_pages z key]
  unfold Sp.put1
  split
  · rfl
  · split
    · split
      · rfl
      · show ((Sp.rm _ _).s.alloc _).2.pages = _
        rw [alloc_pages]; exact free_pages _ _ _
    · exact alloc_pages _ _
/-- What stands behind the call. -/
def BothP (w : World) (X Y pages : Nat) (wx : World) : Prop := ∃ z o o', Duo w X Y z z wx o o' ∧ z.s.pages = pages
set_option maxRecDepth 100000 in
set_option maxHeartbeats 16000000 in
theorem plays_walk (pages page : Int) (la : Option Addr) (ln lc : Nat) (f : Nat → AskD) (w : World) (hA : AskF w la f ln) :
    Calls Try.prog 4 #[.int .i64 pages, .int .i64 page, .slice la ln lc] w fun e w' => e = .returned (.bool true) ∧ Below w.heap.size w w' := by
  have HA : Hid (AskF w la f ln) := hA
  clear hA
  by_cases hright : rightN pages page
  · obtain ⟨np, rfl⟩ : ∃ p : Nat, pages = p := ⟨pages.toNat, by have := hright.1; omega⟩
    obtain ⟨ng, rfl⟩ : ∃ p : Nat, page = p := ⟨page.toNat, by have := hright.2.2.1; omega⟩
    obtain ⟨r1, r2, r3, r4⟩ := hright
    have hnp : np ≤ 64 := by omega
    go_enter Try.func4, Try.ntmps4
    go_wp2_with fail
    refine (snew_yes np ng _ _ rfl rfl (by omega) (by omega) (by omega) (by omega) _ o0 (fun b _ => o0_ok b)).mono ?_
    rintro e w1 ⟨X, rfl, o1, nc, hm, I1, F1⟩
    have HI1 : Hid (IsSt w1 o1 X ⟨St.new np ng nc, []⟩ ∧ Fr (fun _ => False) o0 o1 w w1 ∧ ∀ i, i < nc ↔ sz i ≤ ng) := ⟨I1, F1, hm⟩
    clear I1 F1 hm
    go_wp2_with fail
    refine (rsnew_yes np ng _ _ rfl rfl (by omega) (by omega) (by omega) (by omega) _ o0 (fun b _ e => by cases e)).mono ?_
    rintro e w2 ⟨Y, rfl, o2, nd, hd, I2, F2⟩
    have hnn : nd = nc := same_n hd HI1.out.2.2
    subst hnn
    have HD0 : Hid (Duo w X Y ⟨St.new np ng nd, []⟩ ⟨St.new np ng nd, []⟩ w2 (mx o1 w1) o2) := by
      have b1 : Below w.heap.size w w1 := HI1.out.2.1.below (Nat.le_refl _) (fun _ _ x => x)
      have b2 : Below w1.heap.size w1 w2 := F2.below (Nat.le_refl _) (fun _ _ x => x)
      refine ⟨HI1.out.1.fr (fr_mx b2) (fun _ _ x => x), I2, fun b hb => ?_, fun b hb => ?_, b1.trans (b2.mono b1.size)⟩
      · by_cases e : b < w1.heap.size
        · exact .inr (F2.lab b e)
        · exact .inl (mx_new e)
      · have e : b < w1.heap.size := Nat.lt_of_lt_of_le hb b1.size
        exact ⟨by rw [mx_old e, HI1.out.2.1.lab b hb]; rfl, (F2.lab b e)⟩
    clear I2 F2 HI1 hd
    go_wp2_with fail
    go_loopw [11] (fun y wr => ∃ (i : Nat) (z : Sp) (o o' : Nat → Nat × Nat), y = .int .i64 (i : Int) ∧ i ≤ 60 ∧ Hid (Duo w X Y z z wr o o') ∧ Hid (z.s.pages = np)) (fun y _ => 60 - (intOf y).toNat)
    case atStart => exact ⟨0, _, _, _, rfl, by omega, HD0, rfl⟩
    case round =>
      clear HD0
      obtain ⟨i, z, o, o', rfl, hi60, HD, HPG⟩ := hrel
      by_cases hlt : i < ln ∧ i < 60
      · obtain ⟨hl1, hl2⟩ := hlt
        have k1 : (i : Int) < (ln : Int) := by omega
        have k2 : (i : Int) < 60 := by omega
        obtain ⟨pp, off, hla, hat⟩ := (HA.out.below HD.out.bl).at_ hl1
        subst hla
        obtain ⟨q, hq⟩ : ∃ q, q = f i := ⟨_, rfl⟩
        rw [← hq] at hat
        obtain ⟨y0, y1, y2, y3, y4⟩ := hat
        clear hq
        obtain ⟨A, hA'⟩ : ∃ A, A = wr.heap.size := ⟨_, rfl⟩
        obtain ⟨W, hW⟩ : ∃ W, W = wr.alloc (.cells #[.int .i64 q.K, .int .i64 q.Z, .string q.Y, .string q.D, .bool q.T] 42) := ⟨_, rfl⟩
        have BW : Below wr.heap.size wr W := by rw [hW]; exact (Below.refl _ _).alloc (Nat.le_refl _) _
        have AA : AskAt W A 0 q := by
          refine ⟨?_, ?_, ?_, ?_, ?_⟩ <;> rw [hW, hA', World.cell?_alloc_new] <;> rfl
        have HDW : Hid (DuoA w X Y z z A q W (mx o wr) (mx o' wr)) := ⟨HD.out.below BW, AA, mx_new (by omega), mx_new (by omega)⟩
        have a0 := AA.1
        have a2 := AA.2.2.1
        clear HD AA BW
        go_upto_region 9 with fail
        rw [← hW, ← hA']
        clear hW hA' y0 y1 y2 y3 y4
        obtain ⟨oa, hoa⟩ : ∃ oa, oa = mx o wr := ⟨_, rfl⟩
        obtain ⟨ob, hob⟩ : ∃ ob, ob = mx o' wr := ⟨_, rfl⟩
        rw [← hoa, ← hob] at HDW
        clear hoa hob
        by_cases hkl : 250 < q.Y.size
        · have k3 : (250 : Int) < (q.Y.size : Int) := by omega
          go_wp2_with fail
          exact ⟨⟨i + 1, z, oa, ob, by go_num, by omega, HDW.out.duo, HPG⟩, by simp [intOf]; omega⟩
        · have k3 : decide ((250 : Int) < (q.Y.size : Int)) = false := by simp; omega
          have hkz : q.Y.size ≤ 250 := by omega
          clear hkl
          go_upto_block 2 with fail
          go_cut [11] from 51 to 259 (fun y wx => y = .int .i64 (i : Int) ∧ Hid (BothP w X Y np wx))
          case first =>
            have a1 := HDW.out.ask.2.1
            have a3 := HDW.out.ask.2.2.2.1
            have a4 := HDW.out.ask.2.2.2.2
            by_cases hK1 : q.K = 1
            · clear_value *
              as_aux_lemma =>
                rw [hK1] at a0
                have hdat : ∀ w, Calls Try.prog 16 #[.agg #[.int .i64 1, .int .i64 q.Z, .string q.Y, .string q.D, .bool q.T]] w fun e w' => e = .returned (.string (dt q)) ∧ Below w.heap.size w w' := fun w => by
                  have := dat_any q w
                  rw [hK1] at this; exact this
                have HDAT : Hid (∀ w, Calls Try.prog 16 #[.agg #[.int .i64 1, .int .i64 q.Z, .string q.Y, .string q.D, .bool q.T]] w fun e w' => e = .returned (.string (dt q)) ∧ Below w.heap.size w w') := hdat
                have hdz := dt_size q
                have HK1 : Hid (q.K = 1) := hK1
                clear hdat
                go_wp2_with fail
                go_region_held3 (fun w' => w'.cell? ⟨A, 0, none⟩ = some (.int .i64 1) ∧ w'.cell? ⟨A, 0 + 1, none⟩ = some (.int .i64 q.Z) ∧ w'.cell? ⟨A, 0 + 2, none⟩ = some (.string q.Y) ∧ w'.cell? ⟨A, 0 + 3, none⟩ = some (.string q.D) ∧ w'.cell? ⟨A, 0 + 4, none⟩ = some (.bool q.T)) (first | exact ⟨a0, a1, a2, a3, a4⟩ | exact D5 | exact D6)
                  (first
                    | (go_at_call 16; refine (HDAT.out W.drew).mono ?_; rintro e w5 ⟨rfl, B5⟩; have D5 : w5.cell? ⟨A, 0, none⟩ = some (.int .i64 1) ∧ w5.cell? ⟨A, 0 + 1, none⟩ = some (.int .i64 q.Z) ∧ w5.cell? ⟨A, 0 + 2, none⟩ = some (.string q.Y) ∧ w5.cell? ⟨A, 0 + 3, none⟩ = some (.string q.D) ∧ w5.cell? ⟨A, 0 + 4, none⟩ = some (.bool q.T) := ⟨cell_up B5 a0, cell_up B5 a1, cell_up B5 a2, cell_up B5 a3, cell_up B5 a4⟩)
                    | (go_at_call 9; refine (sput_any X z q.Y (dt q) q.T (by omega) (by omega) w5 oa ((HDW.out.duo.st.fr (Fr.drew1 (fun _ => False) oa W) (fun _ _ x => x)).below B5)).mono ?_; rintro e w6 ⟨V6, o6, rfl, O6, I6, F6⟩; have D6 : w6.cell? ⟨A, 0, none⟩ = some (.int .i64 1) ∧ w6.cell? ⟨A, 0 + 1, none⟩ = some (.int .i64 q.Z) ∧ w6.cell? ⟨A, 0 + 2, none⟩ = some (.string q.Y) ∧ w6.cell? ⟨A, 0 + 3, none⟩ = some (.string q.D) ∧ w6.cell? ⟨A, 0 + 4, none⟩ = some (.bool q.T) := ⟨F6.cell D5.1 (by rw [HDW.out.oA.1]; exact nT0), F6.cell D5.2.1 (by rw [HDW.out.oA.1]; exact nT0), F6.cell D5.2.2.1 (by rw [HDW.out.oA.1]; exact nT0), F6.cell D5.2.2.2.1 (by rw [HDW.out.oA.1]; exact nT0), F6.cell D5.2.2.2.2 (by rw [HDW.out.oA.1]; exact nT0)⟩))
                have F56 : Fr TS oa o6 W w6 := ((Fr.drew1 _ oa W).trans (Fr.ofBelow _ oa B5)).trans F6
                have HM6 : Hid (DuoA w X Y (z.put q.Y (dt q) q.T).2.2 z A q w6 o6 (mx ob W)) := HDW.out.prog nT0 F56 I6
                have HPS : Hid (PutS z q.Y (dt q) q.T (z.put q.Y (dt q) q.T)) := put_spec HDW.out.duo.st.ok q.Y (dt q) q.T
                obtain ⟨r, hr⟩ : ∃ r, r = z.put q.Y (dt q) q.T := ⟨_, rfl⟩
                have HRR : Hid (r = z.put q.Y (dt q) q.T) := hr
                rw [← hr] at O6 HM6 HPS ⊢
                have HPG2 : Hid (r.2.2.s.pages = np) := by show _ = _; rw [hr, put_pages]; exact HPG.out
                obtain ⟨va, vc, hV, _⟩ := O6.form
                subst hV
                have HO6 : Hid (OwnK w6 o6 (7, 0) 1 (.slice va r.1.length vc) r.1.length (strc r.1)) := O6
                obtain ⟨c0', c1', c2', c3', c4'⟩ := D6
                obtain ⟨er, her⟩ : ∃ er, er = r.2.1 := ⟨_, rfl⟩
                have HER : Hid (er = r.2.1) := her
                rw [← her]
                have hgl : r.1.length ≤ 1 := HPS.out.few
                clear her hr F56 O6 I6 F6 D5 B5 a0 a1 a2 a3 a4 hK1 HDW
                go_wp2_with fail
                go_region_held3 (fun w' => w'.cell? ⟨A, 0, none⟩ = some (.int .i64 1) ∧ w'.cell? ⟨A, 0 + 1, none⟩ = some (.int .i64 q.Z) ∧ w'.cell? ⟨A, 0 + 2, none⟩ = some (.string q.Y) ∧ w'.cell? ⟨A, 0 + 3, none⟩ = some (.string q.D) ∧ w'.cell? ⟨A, 0 + 4, none⟩ = some (.bool q.T)) (first | exact ⟨c0', c1', c2', c3', c4'⟩ | exact D5 | exact D6)
                  (first
                    | (go_at_call 16; refine (HDAT.out w6.drew).mono ?_; rintro e w5 ⟨rfl, B5⟩; have D5 : w5.cell? ⟨A, 0, none⟩ = some (.int .i64 1) ∧ w5.cell? ⟨A, 0 + 1, none⟩ = some (.int .i64 q.Z) ∧ w5.cell? ⟨A, 0 + 2, none⟩ = some (.string q.Y) ∧ w5.cell? ⟨A, 0 + 3, none⟩ = some (.string q.D) ∧ w5.cell? ⟨A, 0 + 4, none⟩ = some (.bool q.T) := ⟨cell_up B5 c0', cell_up B5 c1', cell_up B5 c2', cell_up B5 c3', cell_up B5 c4'⟩)
                    | (go_at_call 17; refine (rput_any Y z q.Y (dt q) q.T (by omega) (by omega) w5 (mx ob W) ((HM6.out.duo.rf.fr (Fr.drew1 (fun _ => False) _ w6) (fun _ _ x => x)).below B5)).mono ?_; rintro e w7 ⟨V7, o7, rfl, O7, I7, F7⟩; have D6 : w7.cell? ⟨A, 0, none⟩ = some (.int .i64 1) ∧ w7.cell? ⟨A, 0 + 1, none⟩ = some (.int .i64 q.Z) ∧ w7.cell? ⟨A, 0 + 2, none⟩ = some (.string q.Y) ∧ w7.cell? ⟨A, 0 + 3, none⟩ = some (.string q.D) ∧ w7.cell? ⟨A, 0 + 4, none⟩ = some (.bool q.T) := ⟨F7.cell D5.1 (by rw [HM6.out.oA.2]; exact nR0), F7.cell D5.2.1 (by rw [HM6.out.oA.2]; exact nR0), F7.cell D5.2.2.1 (by rw [HM6.out.oA.2]; exact nR0), F7.cell D5.2.2.2.1 (by rw [HM6.out.oA.2]; exact nR0), F7.cell D5.2.2.2.2 (by rw [HM6.out.oA.2]; exact nR0)⟩))
                have F67 : Fr TR (mx ob W) o7 w6 w7 := ((Fr.drew1 _ _ w6).trans (Fr.ofBelow _ _ B5)).trans F7
                rw [← HRR.out] at O7 I7 ⊢
                have HM7 : Hid (DuoA w X Y r.2.2 r.2.2 A q w7 (mx o6 w6) o7) := HM6.out.refr nR0 F67 I7
                obtain ⟨ua, uc, hU, _⟩ := O7.form
                subst hU
                have HO7 : Hid (OwnK w7 o7 (7, 0) 1 (.slice ua r.1.length uc) r.1.length (strc r.1) ∧ OwnK w7 (mx o6 w6) (7, 0) 1 (.slice va r.1.length vc) r.1.length (strc r.1)) := ⟨O7, HO6.out.over nD70 HM6.out.duo.dj nR0 F67⟩
                rw [← HER.out]
                clear F67 O7 I7 F7 D5 D6 B5 HM6 HO6 c0' c1' c2' c3' c4'
                go_wp2_with fail
                refine (same_any r.1 (by omega) _ HO7.out.2 HO7.out.1).mono ?_
                rintro e w8 ⟨rfl, B8⟩
                have HE : Hid (BothP w X Y np w8) := ⟨r.2.2, _, _, HM7.out.duo.below B8, HPG2.out⟩
                have her2 : (((er : Nat) : Int) != ((er : Nat) : Int)) = false := by simp
                clear B8 HO7 HM7
                go_wp2_with fail
                go_meet
                exact ⟨rfl, HE⟩
            · have bK1 : (q.K == 1) = false := beq_eq_false_iff_ne.2 hK1
              by_cases hK2 : q.K = 2
              · as_aux_lemma =>
                  go_wp2_with fail
                  refine (sget_any X z q.Y (by omega) _ oa HDW.out.duo.st).mono ?_
                  rintro e w5 ⟨rfl, I5, F5⟩
                  have HM5 : Hid (DuoA w X Y (z.touch q.Y) z A q w5 oa (mx ob W)) := HDW.out.prog nT0 F5 I5
                  obtain ⟨td, htd⟩ : ∃ td, td = tel (fnd z.l q.Y) := ⟨_, rfl⟩
                  obtain ⟨bq, hbq⟩ : ∃ bq, bq = (fnd z.l q.Y).isSome := ⟨_, rfl⟩
                  have HTB : Hid (td = tel (fnd z.l q.Y) ∧ bq = (fnd z.l q.Y).isSome) := ⟨htd, hbq⟩
                  rw [← htd, ← hbq]
                  have c2' := HM5.out.ask.2.2.1
                  clear I5 F5 a0 a1 a2 a3 a4 htd hbq HDW
                  go_wp2_with fail
                  refine (rget_any Y z q.Y _ _ HM5.out.duo.rf).mono ?_
                  rintro e w6 ⟨rfl, o6, I6, F6⟩
                  have HE : Hid (BothP w X Y np w6) := ⟨_, _, _, (HM5.out.refr nR0 F6 I6).duo, by rw [touch_pages]; exact HPG.out⟩
                  rw [← HTB.out.1, ← HTB.out.2]
                  have s1 : (td.toList != td.toList) = false := by simp
                  have s2 : (bq != bq) = false := by simp
                  clear I6 F6 HM5 c2'
                  go_wp2_with fail
                  go_meet
                  exact ⟨rfl, HE⟩
              · have bK2 : (q.K == 2) = false := beq_eq_false_iff_ne.2 hK2
                by_cases hK3 : q.K = 3
                · as_aux_lemma =>
                    clear a0 a1 a3 a4
                    go_wp2_with fail
                    refine (keys_any X z _ oa HDW.out.duo.st).mono ?_
                    rintro e w5 ⟨V5, o5, rfl, O5, I5, F5⟩
                    have HM5 : Hid (DuoA w X Y z z A q w5 o5 (mx ob W)) := HDW.out.prog (fun h => h) F5 I5
                    obtain ⟨va, vc, hV, _⟩ := O5.form
                    subst hV
                    have HO5 : Hid (OwnK w5 o5 (7, 0) 1 (.slice va z.keys.length vc) z.keys.length (strc z.keys)) := O5
                    have c2' := HM5.out.ask.2.2.1
                    clear I5 F5 O5 a2 HDW
                    go_wp2_with fail
                    refine (peek_any X z q.Y (by omega) _ o5 HM5.out.duo.st).mono ?_
                    rintro e w6 ⟨rfl, B6⟩
                    obtain ⟨td, htd⟩ : ∃ td, td = tel (fnd z.l q.Y) := ⟨_, rfl⟩
                    obtain ⟨bq, hbq⟩ : ∃ bq, bq = (fnd z.l q.Y).isSome := ⟨_, rfl⟩
                    have HTB : Hid (td = tel (fnd z.l q.Y) ∧ bq = (fnd z.l q.Y).isSome) := ⟨htd, hbq⟩
                    rw [← htd, ← hbq]
                    have HM6 : Hid (DuoA w X Y z z A q w6 (mx o5 w5) (mx (mx ob W) w5)) := HM5.out.below B6
                    have HO6 : Hid (OwnK w6 (mx o5 w5) (7, 0) 1 (.slice va z.keys.length vc) z.keys.length (strc z.keys)) := HO5.out.fr (fr_mx B6) (fun x => x)
                    obtain ⟨o6, ho6⟩ : ∃ o6, o6 = mx o5 w5 := ⟨_, rfl⟩
                    obtain ⟨p6, hp6⟩ : ∃ p6, p6 = mx (mx ob W) w5 := ⟨_, rfl⟩
                    rw [← ho6] at HM6 HO6
                    rw [← hp6] at HM6
                    obtain ⟨S, v, hR⟩ := HM6.out.duo.rf
                    obtain ⟨ra, rc, hv, _⟩ := hR.li.form
                    subst hv
                    obtain ⟨nl, hnl⟩ : ∃ n, n = z.l.length := ⟨_, rfl⟩
                    have HNL : Hid (nl = z.l.length) := hnl
                    have hfew : nl ≤ 720896 := by rw [hnl]; exact hR.ok.few
                    rw [← hnl] at hR
                    have HR : Hid (IsRS w6 p6 Y z S (.slice ra nl rc)) := hR
                    clear htd hbq ho6 hp6 hR B6 c2' HM5 HO5 hnl
                    go_wp2_with fail
                    go_loopw [24] (fun y wx => ∃ j : Nat, j ≤ nl ∧ y = .int .i64 (j : Int) ∧ Hid (Below w6.heap.size w6 wx)) (fun y _ => nl - (intOf y).toNat)
                    case atStart => exact ⟨0, by omega, rfl, Below.refl _ _⟩
                    case round =>
                      obtain ⟨j, hj, rfl, HB⟩ := hrel
                      have c1' := (HR.out.below HB.out).c1
                      by_cases hlt : j < nl
                      · have k4 : (j : Int) < (nl : Int) := by omega
                        have hj2 : j < z.l.length := by rw [← HNL.out]; exact hlt
                        obtain ⟨it, hit⟩ : ∃ it, z.l[j]? = some it := ⟨_, List.getElem?_eq_getElem hj2⟩
                        have hin : it ∈ z.l := List.mem_of_getElem? hit
                        obtain ⟨g, cap, e, _, _, _, _, h6, _⟩ := (HR.out.below HB.out).li.there (by omega)
                        injection e with e1 e2 e3
                        subst e1
                        obtain ⟨d0, d1, d2, _⟩ := itc_at _ _ _ hit
                        replace d0 := h6 _ _ d0
                        replace d1 := h6 _ _ d1
                        replace d2 := h6 _ _ d2
                        have c0' := (HR.out.below HB.out).c0
                        have a2' : wr.cell? ⟨A, 0 + 2, none⟩ = some (.string q.Y) := cell_up HB.out HM6.out.ask.2.2.1
                        have hfit := HR.out.ok.fit it hin
                        by_cases hk : it.key = q.Y
                        · have s1 : (it.key.toList == q.Y.toList) = true := by rw [str_beq, hk]; simp
                          have hfn : fnd z.l q.Y = some it := by rw [← hk]; exact fnd_mk HR.out.ok.ndk hin
                          have hlv := HR.out.ok.live it hin
                          have HRD : Hid (z.s.rd it.c it.k = it.key ++ it.d ∧ z.s.has it.c it.k = true) := ⟨by unfold St.rd; rw [if_pos (St.has_mk hlv.1 hlv.2).1]; exact (St.has_mk hlv.1 hlv.2).2, (St.has_mk hlv.1 hlv.2).1⟩
                          have htd : td = it.d := by rw [HTB.out.1, hfn]; rfl
                          have hbq : bq = true := by rw [HTB.out.2, hfn]; rfl
                          have HKK : Hid (it.key = q.Y) := hk
                          clear hk hlv hfn hit hin h6 e2 e3 hj2
                          subst htd hbq
                          go_wp2_with fail
                          go_quiet (fail)
                          obtain ⟨w7, hw7⟩ : ∃ w7, w7 = wr.drewN nq := ⟨_, rfl⟩
                          have B7 : Below wr.heap.size wr w7 := by rw [hw7]; exact below_drewN (Below.refl _ _) nq
                          rw [← hw7]
                          have HB7 : Hid (Below w6.heap.size w6 w7) := HB.out.trans (B7.mono HB.out.size)
                          have f0 := cell_up B7 c0'
                          have f1 := cell_up B7 c1'
                          have f2 := cell_up B7 d1
                          have f3 := cell_up B7 d2
                          clear hw7 B7 c0' c1' d0 d1 d2 a2' HB
                          go_wp2_with fail
                          go_region_held3 (fun w' => w'.cell? ⟨Y, 0, none⟩ = some (.pointer (some ⟨S, 0, none⟩)) ∧ w'.cell? ⟨Y, 1, none⟩ = some (.slice (some ⟨g, 0, none⟩) nl rc) ∧ w'.cell? ⟨g, j * 4 + 1, none⟩ = some (.int .i64 ((it.c : Nat) : Int)) ∧ w'.cell? ⟨g, j * 4 + 2, none⟩ = some (.int .i64 ((it.k : Nat) : Int))) (first | exact ⟨f0, f1, f2, f3⟩ | exact D8)
                            ((go_at_call 20; refine (rread_any 5 S z.s it.c it.k w7.drew p6 ((HR.out.below (HB7.out.trans ((below_drewN (Below.refl _ _) 1).mono HB7.out.size))).slab)).mono ?_; rintro e w8 ⟨rfl, B8⟩; have D8 : w8.cell? ⟨Y, 0, none⟩ = some (.pointer (some ⟨S, 0, none⟩)) ∧ w8.cell? ⟨Y, 1, none⟩ = some (.slice (some ⟨g, 0, none⟩) nl rc) ∧ w8.cell? ⟨g, j * 4 + 1, none⟩ = some (.int .i64 ((it.c : Nat) : Int)) ∧ w8.cell? ⟨g, j * 4 + 2, none⟩ = some (.int .i64 ((it.k : Nat) : Int)) := ⟨cell_up B8 f0, cell_up B8 f1, cell_up B8 f2, cell_up B8 f3⟩))
                          have B78 : Below w7.heap.size w7 w8 := (below_drewN (Below.refl _ _) 1).trans B8
                          have HB8 : Hid (Below w6.heap.size w6 w8) := HB7.out.trans (B78.mono HB7.out.size)
                          have a2' : w8.cell? ⟨A, 0 + 2, none⟩ = some (.string q.Y) := cell_up HB8.out HM6.out.ask.2.2.1
                          rw [HRD.out.1, HRD.out.2]
                          obtain ⟨t, ht⟩ : ∃ t, t = it.key ++ it.d := ⟨_, rfl⟩
                          have hqs : it.key.size = q.Y.size := by rw [HKK.out]
                          have hd : t.extract q.Y.size t.size = it.d := by rw [ht, ← hqs]; exact ba_back _ _
                          have hsz : (q.Y.size : Int) ≤ (t.size : Int) := by rw [ht, ba_size]; omega
                          have hsz2 : q.Y.size ≤ t.size := by omega
                          have hsz3 : t.size ≤ 65536 := by rw [ht]; exact hfit
                          have s4 : (it.d.toList != it.d.toList) = false := by simp
                          rw [← ht]
                          clear ht D8 f0 f1 f2 f3 B8 B78 HB7 HRD hfit hqs
                          go_wp2_with fail
                          exact ⟨⟨j + 1, by omega, by go_num, HB8⟩, by simp [intOf]; omega⟩
                        · have s1 : (it.key.toList == q.Y.toList) = false := str_ne hk
                          clear hk hit hin h6 e2 e3 hj2 hfit
                          go_wp2_with fail
                          go_quiet (fail)
                          have HB7 : Hid (Below w6.heap.size w6 (wr.drewN nq)) := HB.out.trans ((below_drewN (Below.refl _ _) nq).mono HB.out.size)
                          go_wp2_with fail
                          exact ⟨⟨j + 1, by omega, by go_num, HB7⟩, by simp [intOf]; omega⟩
                      · have k4 : decide ((j : Int) < (nl : Int)) = false := by simp; omega
                        have HMX : Hid (DuoA w X Y z z A q wr (mx o6 w6) (mx p6 w6)) := HM6.out.below HB.out
                        have HOX : Hid (OwnK wr (mx o6 w6) (7, 0) 1 (.slice va z.keys.length vc) z.keys.length (strc z.keys)) := HO6.out.fr (fr_mx HB.out) (fun x => x)
                        have hkn : z.keys.length ≤ 1000000 := by unfold Sp.keys; rw [List.length_map, ← HNL.out]; omega
                        clear HM6 HO6 HB
                        go_wp2_with fail
                        refine (keys_any X z _ _ HMX.out.duo.st).mono ?_
                        rintro e w9 ⟨V9, o9, rfl, O9, I9, F9⟩
                        have HO9 : Hid (OwnK w9 o9 (7, 0) 1 V9 z.keys.length (strc z.keys) ∧ OwnK w9 o9 (7, 0) 1 (.slice va z.keys.length vc) z.keys.length (strc z.keys)) := ⟨O9, HOX.out.fr F9 (fun x => x)⟩
                        have HM9 : Hid (DuoA w X Y z z A q w9 o9 (mx (mx p6 w6) wr)) := HMX.out.prog (fun h => h) F9 I9
                        clear O9 I9 F9 HOX HMX
                        go_wp2_with fail
                        refine (same_any z.keys hkn _ HO9.out.1 HO9.out.2).mono ?_
                        rintro e w10 ⟨rfl, B10⟩
                        have HE : Hid (BothP w X Y np w10) := ⟨_, _, _, (HM9.out.below B10).duo, HPG.out⟩
                        clear HM9 B10 HO9
                        go_wp2_with fail
                        go_meet
                        exact ⟨rfl, HE⟩
                · have bK3 : (q.K == 3) = false := beq_eq_false_iff_ne.2 hK3
                  by_cases hK4 : q.K = 4
                  · as_aux_lemma =>
                      go_wp2_with fail
                      go_region_held3 (fun w' => w'.cell? ⟨A, 0 + 2, none⟩ = some (.string q.Y) ∧ w'.cell? ⟨A, 0 + 4, none⟩ = some (.bool q.T)) (first | exact ⟨a2, a4⟩ | exact D5 | exact D6)
                        (first
                          | (go_at_call 12; refine (spin_any X z q.Y q.T (by omega) W.drew oa (HDW.out.duo.st.fr (Fr.drew1 (fun _ => False) oa W) (fun _ _ x => x))).mono ?_; rintro e w5 ⟨rfl, I5, F5⟩; have HM5 := HDW.out.prog nT0 ((Fr.drew1 _ oa W).trans F5) I5; have D5 : w5.cell? ⟨A, 0 + 2, none⟩ = some (.string q.Y) ∧ w5.cell? ⟨A, 0 + 4, none⟩ = some (.bool q.T) := ⟨HM5.ask.2.2.1, HM5.ask.2.2.2.2⟩)
                          | (go_at_call 21; refine (rpin_any Y z q.Y q.T w5 (mx ob W) HM5.duo.rf).mono ?_; rintro e w6 ⟨rfl, o6, I6, F6⟩; have HM6 := HM5.refr nR0 F6 I6; have D6 : w6.cell? ⟨A, 0 + 2, none⟩ = some (.string q.Y) ∧ w6.cell? ⟨A, 0 + 4, none⟩ = some (.bool q.T) := ⟨HM6.ask.2.2.1, HM6.ask.2.2.2.2⟩))
                      all_goals
                        have HE : Hid (BothP w X Y np w6) := ⟨_, _, _, HM6.duo, HPG.out⟩
                        obtain ⟨bq, hbq⟩ : ∃ bq, bq = (fnd z.l q.Y).isSome := ⟨_, rfl⟩
                        rw [← hbq]
                        have s2 : (bq != bq) = false := by simp
                        clear hbq HM6 HM5 D5 D6 I5 F5 I6 F6 a0 a1 a2 a3 a4 HDW
                        go_wp2_with fail
                        go_meet
                        exact ⟨rfl, HE⟩
                  · have bK4 : (q.K == 4) = false := beq_eq_false_iff_ne.2 hK4
                    by_cases hK5 : q.K = 5
                    · as_aux_lemma =>
                        go_wp2_with fail
                        go_region_held3 (fun w' => w'.cell? ⟨A, 0 + 2, none⟩ = some (.string q.Y)) (first | exact a2 | exact D5 | exact D6)
                          (first
                            | (go_at_call 13; refine (sdrop_any X z q.Y (by omega) W.drew oa (HDW.out.duo.st.fr (Fr.drew1 (fun _ => False) oa W) (fun _ _ x => x))).mono ?_; rintro e w5 ⟨rfl, o5, I5, F5⟩; have HM5 := HDW.out.prog nT0 ((Fr.drew1 _ oa W).trans F5) I5; have D5 : w5.cell? ⟨A, 0 + 2, none⟩ = some (.string q.Y) := HM5.ask.2.2.1)
                            | (go_at_call 22; refine (rdrop_any Y z q.Y w5 (mx ob W) HM5.duo.rf).mono ?_; rintro e w6 ⟨rfl, o6, I6, F6⟩; have HM6 := HM5.refr nR0 F6 I6; have D6 : w6.cell? ⟨A, 0 + 2, none⟩ = some (.string q.Y) := HM6.ask.2.2.1))
                        all_goals
                          have HE : Hid (BothP w X Y np w6) := ⟨_, _, _, HM6.duo, by rw [drop_pages]; exact HPG.out⟩
                          obtain ⟨bq, hbq⟩ : ∃ bq, bq = (fnd z.l q.Y).isSome := ⟨_, rfl⟩
                          rw [← hbq]
                          have s2 : (bq != bq) = false := by simp
                          clear hbq HM6 HM5 D5 D6 I5 F5 I6 F6 a0 a1 a2 a3 a4 HDW
                          go_wp2_with fail
                          go_meet
                          exact ⟨rfl, HE⟩
                    · have bK5 : (q.K == 5) = false := beq_eq_false_iff_ne.2 hK5
                      have HE : Hid (BothP w X Y np W) := ⟨_, _, _, HDW.out.duo, HPG.out⟩
                      clear a0 a1 a2 a3 a4 HDW
                      go_wp2_with fail
                      go_meet
                      exact ⟨rfl, HE⟩
          case rest => as_aux_lemma =>
              obtain ⟨rfl, HB⟩ := hcut
              obtain ⟨z, o, o', D, hpg⟩ := HB.out
              have HD : Hid (Duo w X Y z z wc o o' ∧ z.s.pages = np) := ⟨D, hpg⟩
              clear HB D hpg HDW HPG a0 a2
              go_wp2_with fail
              refine (spages_any X z _ o HD.out.1.st).mono ?_
              rintro e w5 ⟨rfl, B5⟩
              have HD5 : Hid (Duo w X Y z z w5 (mx o wc) (mx o' wc) ∧ z.s.pages = np) := ⟨HD.out.1.below B5, HD.out.2⟩
              obtain ⟨o5, ho5⟩ : ∃ o5, o5 = mx o wc := ⟨_, rfl⟩
              obtain ⟨p5, hp5⟩ : ∃ p5, p5 = mx o' wc := ⟨_, rfl⟩
              rw [← ho5, ← hp5] at HD5
              obtain ⟨S, v, hR⟩ := HD5.out.1.rf
              obtain ⟨ra, rc, hv, _⟩ := hR.li.form
              subst hv
              obtain ⟨nl, hnl⟩ : ∃ n, n = z.l.length := ⟨_, rfl⟩
              obtain ⟨lf, hlf⟩ : ∃ n, n = z.s.left := ⟨_, rfl⟩
              obtain ⟨us, hus⟩ : ∃ n, n = z.s.pages - z.s.left := ⟨_, rfl⟩
              have hsum : us + lf = np := by have h1 := hR.ok.ok.l1; have h2 := HD5.out.2; omega
              have hkn : z.keys.length ≤ 1000000 := by unfold Sp.keys; rw [List.length_map]; have := hR.ok.few; omega
              have g0 := hR.c0
              have g1 := hR.c1
              have g2 := hR.slab.c1
              rw [← hlf] at g2
              rw [← hnl] at g1
              have HNL : Hid (nl = z.l.length) := hnl
              rw [← hus, ← hlf]
              have s1 : (((us : Int) + (lf : Int)) != (np : Int)) = false := by simp; omega
              have s2 : ((lf : Int) != (lf : Int)) = false := by simp
              have s3 : ((nl : Int) != (nl : Int)) = false := by simp
              have hwk : IntKind.i64.wrap ((us : Int) + (lf : Int)) = (us : Int) + (lf : Int) := by rw [IntKind.wrap_i64]; omega
              clear HD B5 ho5 hp5 hR hnl hlf hus hsum
              go_wp2_with fail
              go_region_held3 (fun w' => w'.cell? ⟨Y, 0, none⟩ = some (.pointer (some ⟨S, 0, none⟩)) ∧ w'.cell? ⟨Y, 1, none⟩ = some (.slice ra nl rc) ∧ w'.cell? ⟨S, 1, none⟩ = some (.int .i64 ((lf : Nat) : Int))) (first | exact ⟨g0, g1, g2⟩ | exact D6 | exact D7 | exact D8)
                (first
                  | (go_at_call 11; refine (keys_any X z w5.drew o5 (HD5.out.1.st.fr (Fr.drew1 (fun _ => False) o5 w5) (fun _ _ x => x))).mono ?_; rintro e w6 ⟨V6, o6, rfl, O6, I6, F6⟩; have F56 : Fr (fun _ => False) o5 o6 w5 w6 := (Fr.drew1 _ o5 w5).trans F6; have HM6 : Hid (Duo w X Y z z w6 o6 (mx p5 w5)) := HD5.out.1.prog (fun h => h) F56 I6; have D6 : w6.cell? ⟨Y, 0, none⟩ = some (.pointer (some ⟨S, 0, none⟩)) ∧ w6.cell? ⟨Y, 1, none⟩ = some (.slice ra nl rc) ∧ w6.cell? ⟨S, 1, none⟩ = some (.int .i64 ((lf : Nat) : Int)) := ⟨F56.cell g0 (fun h => h), F56.cell g1 (fun h => h), F56.cell g2 (fun h => h)⟩)
                  | (go_at_call 24; refine (rkeys_any Y z w6 (mx p5 w5) HM6.out.rf).mono ?_; rintro e w7 ⟨V7, o7, rfl, O7, I7, F7⟩; have HM7 : Hid (Duo w X Y z z w7 (mx o6 w6) o7) := HM6.out.refr (fun h => h) F7 I7; have HO7 : Hid (OwnK w7 (mx o6 w6) (7, 0) 1 V6 z.keys.length (strc z.keys)) := O6.over nD70 HM6.out.dj (fun h => h) F7; have D7 : w7.cell? ⟨Y, 0, none⟩ = some (.pointer (some ⟨S, 0, none⟩)) ∧ w7.cell? ⟨Y, 1, none⟩ = some (.slice ra nl rc) ∧ w7.cell? ⟨S, 1, none⟩ = some (.int .i64 ((lf : Nat) : Int)) := ⟨F7.cell D6.1 (fun h => h), F7.cell D6.2.1 (fun h => h), F7.cell D6.2.2 (fun h => h)⟩)
                  | (go_at_call 14; refine (same_any z.keys hkn w7 HO7.out O7).mono ?_; rintro e w8 ⟨rfl, B8⟩; have HM8 : Hid (Duo w X Y z z w8 (mx (mx o6 w6) w7) (mx o7 w7)) := HM7.out.below B8; have D8 : w8.cell? ⟨Y, 0, none⟩ = some (.pointer (some ⟨S, 0, none⟩)) ∧ w8.cell? ⟨Y, 1, none⟩ = some (.slice ra nl rc) ∧ w8.cell? ⟨S, 1, none⟩ = some (.int .i64 ((lf : Nat) : Int)) := ⟨cell_up B8 D7.1, cell_up B8 D7.2.1, cell_up B8 D7.2.2⟩)
                  | (go_at_call 25; refine (slen_any X z w8 _ HM8.out.st).mono ?_; rintro e w9 ⟨rfl, rfl⟩; rw [← HNL.out]))
              all_goals
                have HE : Hid (Duo w X Y z z w8 (mx (mx o6 w6) w7) (mx o7 w7) ∧ z.s.pages = np) := ⟨HM8.out, HD5.out.2⟩
                clear HM8 HM7 HO7 O7 I7 F7 D6 D7 D8 B8 HM6 O6 I6 F6 F56 HD5
                go_wp2_with fail
                exact ⟨⟨i + 1, z, _, _, by go_num, by omega, HE.out.1, HE.out.2⟩, by simp [intOf]; omega⟩
      · have hcond : ¬ ((i : Int) < (ln : Int)) ∨ ((i : Int) < (ln : Int) ∧ ¬ ((i : Int) < 60)) := by omega
        have HB : Hid (Below w.heap.size w wr) := HD.out.bl
        clear hlt HD
        rcases hcond with hc | ⟨hc1, hc2⟩
        · have k1 : decide ((i : Int) < (ln : Int)) = false := by simp; omega
          go_wp2_with fail
          refine (runs_any _).mono ?_
          rintro e w3 ⟨rfl, B3⟩
          have HB3 : Hid (Below w.heap.size w w3) := HB.out.trans (B3.mono HB.out.size)
          clear B3
          go_wp2_with fail
          go_ret
          exact ⟨rfl, HB3.out⟩
        · have k1 : decide ((i : Int) < 60) = false := by simp; omega
          go_wp2_with fail
          refine (runs_any _).mono ?_
          rintro e w3 ⟨rfl, B3⟩
          have HB3 : Hid (Below w.heap.size w w3) := HB.out.trans (B3.mono HB.out.size)
          clear B3
          go_wp2_with fail
          go_ret
          exact ⟨rfl, HB3.out⟩
  · have HR : Hid (¬ rightN pages page) := hright
    clear hright
    go_enter Try.func4, Try.ntmps4
    go_wp2_with fail
    refine (snew_no pages page HR.out _).mono ?_
    rintro e w1 ⟨rfl, rfl⟩
    go_wp2_with fail
    refine (rsnew_no pages page HR.out _).mono ?_
    rintro e w1 ⟨rfl, rfl⟩
    go_wp2_with fail
    go_loopw [11] (fun y wr => y = .int .i64 0 ∧ w = wr) (fun _ _ => 0)
    case atStart => exact ⟨rfl, rfl⟩
    case round =>
      obtain ⟨rfl, rfl⟩ := hrel
      by_cases h0 : 0 < ln
      · have k1 : (0 : Int) < (ln : Int) := by omega
        go_wp2_with fail
        refine (runs_any _).mono ?_
        rintro e w3 ⟨rfl, B3⟩
        have HB3 : Hid (Below w.heap.size w w3) := B3
        clear B3
        go_wp2_with fail
        go_ret
        exact ⟨rfl, HB3.out⟩
      · have k1 : ln = 0 := by omega
        subst k1
        go_wp2_with fail
        refine (runs_any _).mono ?_
        rintro e w3 ⟨rfl, B3⟩
        have HB3 : Hid (Below w.heap.size w w3) := B3
        clear B3
        go_wp2_with fail
        go_ret
        exact ⟨rfl, HB3.out⟩
end Go.Proofs.Ytbflcnghpkmcoaa
