/-
  THE REFERENCE'S Drop.
-/
import Derived.Test.YtaflabjeddckeaaRPut
namespace Go.Proofs.Ytaflabjeddckeaa
open Go.RowKit

/-- append(append([]T{}, l[:i]...), l[i+1:]...). -/
theorem erase_own2 {w : World} {o : (Nat → Nat × Nat)} {t : Nat × Nat} {k n g cap i : Nat} {cs : List Value} (T E : TypeId) (z : Value) (bz : Nat) (ht : Try.prog.underlying T = some (.slice E)) (hinfo : (Try.prog.info? E).map (fun i => (i.zero, i.size, i.bytes)) = some (some z, k, bz)) (hz : z.cells.size = k)
    (h : OwnK w o t k (.slice (some ⟨g, 0, none⟩) n cap) n cs) (hi : i < n) (hb : n * bz ≤ 140737488355328) (hb2 : n ≤ 140737488355328) :
    ∃ a1 c1 w1 a2 c2 w2 o2, (Builtin.append_ #[T, T] T #[.slice (some ⟨w.heap.size, 0, none⟩) 0 0, .slice (some ⟨g, 0, none⟩) i cap]).run Try.prog (w.alloc (.cells #[] E)) = .ok (.slice a1 i c1) w1 ∧
      (Builtin.append_ #[T, T] T #[.slice a1 i c1, .slice (some (cutA g (i + 1) cap k)) (n - (i + 1)) (cap - (i + 1))]).run Try.prog w1 = .ok (.slice a2 (n - 1) c2) w2 ∧
      OwnK w2 o2 t k (.slice a2 (n - 1) c2) (n - 1) (cs.take (i * k) ++ cs.drop ((i + 1) * k)) ∧ (∀ U, Fr U o o2 w w2) ∧ Below w.heap.size w w1 := by
  have hgl : g < w.heap.size := by
    obtain ⟨_, _, h⟩ := h
    rcases h with ⟨e, _⟩ | ⟨g', cap', e, h2, h3, _⟩
    · cases e
    · injection e with e1 e2 e3
      injection e1 with e1
      injection e1 with e1
      subst e1; exact h3
  obtain ⟨q, hq⟩ : ∃ q : (Nat → Nat × Nat), q = lab (fun _ => (5, 5)) g (6, 6) := ⟨_, rfl⟩
  have qg : q g = (6, 6) := by rw [hq]; exact lab_same _ _ _
  have qn : ∀ b, q b ≠ (7, 7) := fun b e => by
    rw [hq] at e
    by_cases hbg : b = g
    · subst hbg; rw [lab_same] at e; cases e
    · rw [lab_other _ _ _ hbg] at e; cases e
  have h0 := h.mark (o' := q) qg
  have A1 : Fr (fun _ => False) q (lab q w.heap.size (7, 7)) w (w.alloc (.cells #[] E)) := Fr.new _ q w _ _
  have h1 := h0.fr A1 (fun x => x)
  have d1 : OwnK (w.alloc (.cells #[] E)) (lab q w.heap.size (7, 7)) (7, 7) k (.slice (some ⟨w.heap.size, 0, none⟩) 0 0) 0 [] := by
    have := own_new (w := w) (o := q) (t := (7, 7)) (k := k) (n := 0) (cap := 0) (e := E) [] #[] (by simp) (fun _ h => by cases h) (Nat.le_refl _) (by unfold maxLen; omega) (by simp)
    simpa using this
  obtain ⟨v1, w1, q1, r1, O1, F1⟩ := app_own (t := (7, 7)) T T E z bz ht hinfo hz d1 ((h1.cut i (by omega)).src ht) (Nat.le_trans (Nat.mul_le_mul_right _ (by omega)) hb) (by omega)
  rw [Nat.zero_add] at O1
  obtain ⟨a1, c1, rfl, _⟩ := O1.form
  have h2 := h1.fr F1 (fun e => by cases e)
  obtain ⟨v2, w2, q2, r2, O2, F2⟩ := app_own (t := (7, 7)) T T E z bz ht hinfo hz O1 (src_drop ht h2 (i + 1) (by omega)) (Nat.le_trans (Nat.mul_le_mul_right _ (by omega)) hb) (by omega)
  rw [show i + (n - (i + 1)) = n - 1 by omega, List.nil_append] at O2
  obtain ⟨a2, c2, rfl, _⟩ := O2.form
  have FF : Fr (fun t => t = (7, 7)) q q2 w w2 := ((A1.mono (fun _ h => h.elim)).trans F1).trans F2
  obtain ⟨o2, hO, hF⟩ := own_fresh (o := o) (t := t) O2 (fun b hb => by rw [FF.lab b hb]; exact qn b) (FF.below (Nat.le_refl _) (fun b _ => qn b))
  exact ⟨a1, c1, w1, a2, c2, w2, o2, r1, r2, hO, hF, Fr.below ((A1.mono (fun _ h => h.elim)).trans F1) (Nat.le_refl _) (fun b _ => qn b)⟩
set_option maxHeartbeats 2000000 in
theorem rdrop_any (x C : Nat) (a : A) (k : ByteArray) (hk : k.size ≤ 140737488355328) (hk1 : -1000000000 ≤ a.keys) (hk2 : a.keys ≤ 1000000000) (K : List ByteArray) (hK : Dom a K) (w : World) (o : Nat → Nat × Nat) (h : IsRef w o x C a) :
    Calls Try.prog 21 #[.pointer (some ⟨C, 0, none⟩), .string k] w fun e w' => e = .returned (.bool (a.F k).isSome) ∧ RPutP w o x C (a.drop k) w' := by
  obtain ⟨bb, hbb⟩ : ∃ b, b = (a.F k).isSome := ⟨_, rfl⟩
  rw [← hbb]
  have HBB : Hid (bb = (a.F k).isSome) := hbb
  clear hbb
  go_enter Try.func21, Try.ntmps21
  go_wp2_with fail
  refine (rstep_any x C a K hK _ o h).mono ?_
  rintro e w1 ⟨rfl, o1, ⟨B, G, h1⟩, F1⟩
  have HC1 : Hid (IsR w1 o1 x C a.step B G) := h1
  have HF1 : Hid (Fr (fun t => t.1 = x) o o1 w w1) := F1
  clear h h1 F1
  go_wp2_with fail
  refine (rbucket_any x C a.step k hk _ o1 B G HC1.out).mono ?_
  rintro e w2 ⟨rfl, d, rfl⟩
  obtain ⟨W2, hW2⟩ : ∃ W2, W2 = w1.drewN d := ⟨_, rfl⟩
  have bd : Below w1.heap.size w1 W2 := by rw [hW2]; exact below_drewN (Below.refl _ _) d
  have HC : Hid (IsR W2 o1 x C a.step B G) := HC1.out.below bd
  have HF2 : Hid (Fr (fun t => t.1 = x) o o1 w W2) := HF1.out.trans (Fr.ofBelow _ o1 bd)
  rw [← hW2]
  clear hW2 bd HC1 HF1
  obtain ⟨rr, hat⟩ := HC.out.bucket k
  have hsh := HC.out.has.short hK.step hat
  obtain ⟨bv, hbv, ow⟩ := rr.bk _ hat
  have hbz := rr.fz _ hat
  obtain ⟨va, vc, rfl, _⟩ := ow.form
  obtain ⟨Gr, hGr⟩ : ∃ g, g = G (a.step.row k) := ⟨_, rfl⟩
  obtain ⟨t, ht⟩ : ∃ t, t = a.step.at_ k := ⟨_, rfl⟩
  obtain ⟨nr, hnr⟩ : ∃ t, t = a.step.cnt (a.step.row k) := ⟨_, rfl⟩
  obtain ⟨l, hl⟩ : ∃ l, l = B (a.step.row k) (a.step.at_ k) := ⟨_, rfl⟩
  have HL : Hid (l = B (a.step.row k) (a.step.at_ k)) := hl
  have HRR : Hid (RowB W2 o1 x Gr nr (B (a.step.row k))) := by rw [hGr, hnr]; exact rr
  have HG : Hid (Gr = G (a.step.row k) ∧ t = a.step.at_ k ∧ nr = a.step.cnt (a.step.row k)) := ⟨hGr, ht, hnr⟩
  rw [← hl] at hsh hbv ow
  rw [← hGr, ← ht] at hbv hbz ⊢
  rw [← ht, ← hnr] at ow hat
  obtain ⟨n, hn⟩ : ∃ n, n = l.length := ⟨_, rfl⟩
  have HN : Hid (n = l.length) := hn
  rw [← hn] at hsh hbv ow
  have HOW : Hid (OwnK W2 o1 (mB x nr t) 2 (.slice va n vc) n (kvc l)) := ow
  have HAT : Hid (t < nr) := hat
  have HFS : Hid (a.step.F = a.F) := a.step_F
  have HKS : Hid (a.step.keys = a.keys) := a.step_keys
  clear rr ow hl hn hGr ht hnr hat
  go_wp2_with fail
  go_loopw [6] (fun y wr => ∃ j : Nat, y = .int .i64 (j : Int) ∧ j ≤ n ∧ Hid (∀ (i : Nat) p, i < j → l[i]? = some p → p.1 ≠ k) ∧ W2 = wr) (fun y _ => n - (intOf y).toNat)
  case atStart => exact ⟨0, rfl, by omega, fun i p hi => by omega, rfl⟩
  case round =>
    obtain ⟨j, rfl, hj, HP, rfl⟩ := hrel
    by_cases hjn : j < n
    · have k1 : (j : Int) < (n : Int) := by omega
      obtain ⟨g, c, eg, og, _, _, _, hcell, hroom⟩ := HOW.out.there (by omega)
      injection eg with e1 _ e3
      subst e1 e3
      obtain ⟨⟨k', u⟩, hp⟩ : ∃ p, l[j]? = some p := ⟨_, List.getElem?_eq_getElem (by rw [← HN.out]; exact hjn)⟩
      obtain ⟨q1, q2⟩ := kvc_at _ _ _ hp
      have y1 := hcell _ _ q1
      have y2 := hcell _ _ q2
      simp only at y1 y2
      have yz := (hroom (j * 2 + 1) (by omega)).2
      have HPj : Hid (l[j]? = some (k', u)) := hp
      clear hcell q1 q2 hp hroom
      by_cases hpk : k' = k
      · subst hpk
        have s1 : (k'.toList == k'.toList) = true := by rw [str_beq]; simp
        have hF : a.F k' = some u := by
          rw [← HFS.out]
          exact (HC.out.has.at_ k' u).2 (by rw [← HL.out]; exact List.mem_of_getElem? HPj.out)
        have HQ1 : Hid ((a.F k').isSome = true) := by show _ = _; rw [hF]; rfl
        have HQ2 : Hid (a.drop k' = a.step.set k' none (a.keys - 1)) := by show _ = _; unfold A.drop; rw [hF]; rfl
        have d2 : Below W2.heap.size W2 W2.drew := (Below.refl _ _).drew
        obtain ⟨a6, q6, w6, a7, q7, w7, o7, run1, run2, O7, F7, B6⟩ := erase_own2 (i := j) 66 68 (.agg #[.string ⟨#[]⟩, .int .i64 0]) 24 under66 info68 (by kernel_rfl) (HOW.out.below d2) hjn (by omega) (by omega)
        rw [kvc_out] at O7
        have hlo : (out l j).length = n - 1 := by rw [out_length _ _ (by rw [← HN.out]; exact hjn), ← HN.out]
        have FW : ∀ U, Fr U o1 o7 W2 w7 := fun U => (Fr.drew1 U o1 W2).trans (F7 U)
        have gC : C < W2.heap.size := World.block_lt_of_cell? _ _ HC.out.c0
        have hGC : Gr ≠ C := fun e => by have h1 := HRR.out.og; rw [e, HC.out.oC] at h1; exact mA_0 _ _ h1.symm
        have t0 : W2.drew.cell? ⟨Gr, t, none⟩ = some (.slice (some ⟨g, 0, none⟩) n vc) := hbv
        have t1 : (W2.alloc (.cells #[] 68)).cell? ⟨Gr, t, none⟩ = some (.slice (some ⟨g, 0, none⟩) n vc) := cell_up ((Below.refl _ _).alloc (Nat.le_refl _) _) hbv
        have t2 : w6.cell? ⟨Gr, t, none⟩ = some (.slice (some ⟨g, 0, none⟩) n vc) := cell_up (w := W2.drew) B6 t0
        have t3 : w7.cell? ⟨Gr, t, none⟩ = some (.slice (some ⟨g, 0, none⟩) n vc) := (FW (fun _ => False)).cell hbv (fun h => h)
        have t4 : w7.frozen? ⟨Gr, t, none⟩ = false := ((FW (fun _ => False)).frozen (World.block_lt_of_cell? _ _ hbv) (fun h => h)).trans hbz
        have O7' : OwnK w7 o7 (mB x nr t) 2 (.slice a7 (n - 1) q7) (out l j).length (kvc (out l j)) := by rw [hlo]; exact O7
        obtain ⟨r4, F4⟩ := HRR.out.turn HAT.out (FW _) O7'
        obtain ⟨Z, hZ⟩ : ∃ Z, Z = w7.setCell ⟨Gr, t, none⟩ (.slice a7 (n - 1) q7) := ⟨_, rfl⟩
        rw [← hZ] at r4 F4
        have cZ : ∀ i, Z.cell? ⟨C, i, none⟩ = W2.cell? ⟨C, i, none⟩ := fun i => by
          rw [hZ]; exact World.cell?_of_block (a := ⟨C, i, none⟩) ((blk_set _ _ _ (fun e => hGC e.symm)).trans ((FW (fun _ => False)).block C gC (fun h => h)))
        have zZ : ∀ i, Z.frozen? ⟨C, i, none⟩ = false := fun i => by
          rw [hZ, World.frozen?_setCell]; exact ((FW (fun _ => False)).frozen gC (fun h => h)).trans (HC.out.fz i)
        have oC7 : o7 C = (x, 0) := ((FW (fun _ => False)).lab C gC).trans HC.out.oC
        have z3 : Z.cell? ⟨C, 3, none⟩ = some (.int .i64 a.keys) := (cZ 3).trans (by rw [← HKS.out]; exact HC.out.c3)
        have z3f := zZ 3
        have HR : Hid (RPutP w o x C (a.drop k') (Z.setCell ⟨C, 3, none⟩ (.int .i64 (a.keys - 1)))) := by
          obtain ⟨g1, g2, g3⟩ := HG.out
          obtain ⟨sp1, _⟩ := set_split 0 HPj.out
          have hso := HC.out.has.cut k' u (a.keys - 1) _ _ (HL.out.symm.trans sp1)
          have fs : Fr (· = (x, 0)) o7 o7 Z (Z.setCell ⟨C, 3, none⟩ (.int .i64 (a.keys - 1))) := Fr.set (a := ⟨C, 3, none⟩) oC7 _
          have FF : Fr (fun t' => t' = mB x nr t ∨ t' = mA x nr ∨ t' = (x, 0)) o1 o7 W2 (Z.setCell ⟨C, 3, none⟩ (.int .i64 (a.keys - 1))) := (F4.mono (fun t e => by rcases e with e | e; exact .inl e; exact .inr (.inl e))).trans (fs.mono (fun t e => .inr (.inr e)))
          rw [HQ2.out]
          refine ⟨o7, ⟨_, G, HC.out.turn hso ?_ ?_ (fun i hi => ?_) (World.cell?_setCell_same _ _ _ z3) (fun i => by rw [World.frozen?_setCell]; exact zZ i)⟩, HF2.out.trans (FF.mono (fun t e => by rcases e with rfl | rfl | rfl <;> rfl))⟩
          · rw [← g1, ← g2, ← g3]
            exact r4.fr (Nat.lt_of_le_of_lt (Nat.zero_le _) HAT.out) fs (mA_0 _ _) (fun i _ => mB_0 _ _ _)
          · rw [← g2, ← g3]; exact FF
          · rw [World.cell?_setCell_other _ _ _ _ (fun e => hi (by injection e with _ e; exact e.symm))]; exact cZ i
        have HZ : Hid (Z = w7.setCell ⟨Gr, t, none⟩ (.slice a7 (n - 1) q7)) := hZ
        have sl1 := slice_hiT 66 68 2 elem66 elem66' size68' g n vc j (by omega)
        have sl2 : ∀ w, (Instr.sliceAt 66 (.slice (some ⟨g, 0, none⟩) n vc) (some (.int .i64 ((j : Int) + 1))) none none).run Try.prog w = .ok (.slice (some (cutA g (j + 1) vc 2)) (n - (j + 1)) (vc - (j + 1))) w := slice_loT 66 68 2 elem66 elem66' size68' g n vc (j + 1) (by omega)
        have hwk : IntKind.i64.wrap ((j : Int) + 1) = (j : Int) + 1 := by rw [IntKind.wrap_i64]; omega
        clear hF O7 F7 O7' FW r4 F4 cZ zZ oC7 hZ B6 d2 HOW HRR HL HP
        go_wp2_with fail
        go_region_law (first | (refine step_app4 run1 (.tmp 30) (.tmp 35) (by rfl) (by rfl) (by rfl) (by rfl) (by rfl) (by rfl) ?_) | (refine step_app4 run2 (.tmp 36) (.tmp 42) (by with_reducible rfl) (by rfl) (by rfl) (by rfl) (by rfl) (by rfl) ?_))
        all_goals
          rw [← HZ.out]
          go_wp2_with fail
          go_ret
          exact ⟨by rw [HBB.out, HQ1.out]; rfl, HR.out⟩
      · have s1 : (k'.toList == k.toList) = false := by rw [str_beq, decide_eq_false hpk]
        have HPK : Hid (k' ≠ k) := hpk
        clear hpk
        go_wp2_with fail
        refine ⟨⟨j + 1, by go_num, by omega, fun i q hi hq => ?_, trivial⟩, by simp [intOf]; omega⟩
        by_cases e : i = j
        · rw [e, HPj.out] at hq; injection hq with hq; rw [← hq]; exact HPK.out
        · exact HP.out i q (by omega) hq
    · have k1 : decide ((j : Int) < (n : Int)) = false := by simp; omega
      have hno : ∀ (i : Nat) p, l[i]? = some p → p.1 ≠ k := fun i p hp => HP.out i p (by have := (List.getElem?_eq_some_iff.1 hp).1; rw [← HN.out] at this; omega) hp
      have hF : a.F k = none := by
        rw [← HFS.out]
        exact HC.out.has.no (fun i p hp => hno i p (by rw [HL.out]; exact hp))
      have HQ1 : Hid ((a.F k).isSome = false) := by show _ = _; rw [hF]; rfl
      have HQ2 : Hid (a.drop k = a.step) := by show _ = _; unfold A.drop; rw [hF]; rfl
      have HR : Hid (RPutP w o x C (a.drop k) W2) := ⟨o1, ⟨B, G, by rw [HQ2.out]; exact HC.out⟩, HF2.out⟩
      clear hF hno
      go_wp2_with fail
      go_ret
      exact ⟨by rw [HBB.out, HQ1.out]; rfl, HR.out⟩
end Go.Proofs.Ytaflabjeddckeaa
