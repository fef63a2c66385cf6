/-
  MAILRUNS walked.
-/
import Derived.Test.YtpepklgahljhbaaFirst
namespace Go.Proofs.Ytpepklgahljhbaa
open Go.Conc Go.RowKit

def o0 : Nat → Nat × Nat := fun _ => (0, 0)
theorem o0_mk : Mk o0 := fun _ h => by cases h
/-- What is drained in the chapter's run. -/
def S0 : S := ([[1, 2, 3], [], [4, 5]], [])
theorem run_fix : rnp 4 3 (itr 4 3 3 S0) = itr 4 3 3 S0 := by decide
theorem run_is : itr 4 3 3 S0 = ([[3], [], []], [1, 4, 2, 5]) := by decide
theorem nil_row (w : World) (o : Nat → Nat × Nat) (t : Nat × Nat) : IntR w o t (.slice none 0 0) [] := .inl ⟨rfl, _, _, rfl⟩
/-- Numbers written out, in memory of their own. -/
theorem lit_new (w : World) (o : Nat → Nat × Nat) (l : List Int) : ∃ o', IntR (w.alloc (.cells (ic l).toArray 3)) o' (4, 0) (.slice (some ⟨w.heap.size, 0, none⟩) l.length l.length) l ∧ Fr (fun _ => False) o o' w (w.alloc (.cells (ic l).toArray 3)) :=
  ⟨_, lit_ints w o (4, 0) l, Fr.new _ _ _ _ _ (fun x => absurd x (by decide))⟩
theorem lit_ps (w : World) (o : Nat → Nat × Nat) (l : List Value) : ∃ o', CellR (w.alloc (.cells l.toArray 22)) o' (4, 0) (.slice (some ⟨w.heap.size, 0, none⟩) l.length l.length) l ∧ Fr (fun _ => False) o o' w (w.alloc (.cells l.toArray 22)) :=
  ⟨_, lit_cells w o (4, 0) 22 l, Fr.new _ _ _ _ _ (fun x => absurd x (by decide))⟩
set_option maxRecDepth 100000 in
set_option maxHeartbeats 4000000 in
theorem runs_any (w : World) : Calls Try.prog 3 #[] w fun e w' => e = .returned (.bool true) ∧ Below w.heap.size w w' := by
  go_enter Try.func3, Try.ntmps3
  go_wp2_with fail
  refine (filled_any 2 2 rfl [] (by omega) (by omega) (by decide) _ o0_mk (nil_row _ _ (0, 0))).mono ?_
  rintro e w1 ⟨b, c, o1, rfl, I1, F1, hc⟩
  have HI1 : Hid (IsBox w1 o1 b c 2 []) := I1
  have HF1 : Hid (Fr (fun _ => False) o0 o1 w w1) := F1
  have HC : Hid (w.heap.size ≤ c) := hc
  clear I1 F1 hc
  go_wp2_with fail
  refine (of_any 1 _).mono ?_
  rintro e w2 ⟨rfl, ob, rfl⟩
  have HI2 : Hid (IsBox (w1.alloc ob) o1 b c 2 []) := HI1.out.alloc ob
  have HF2 : Hid (Fr (fun _ => False) o0 o1 w (w1.alloc ob)) := HF1.out.trans (Fr.alloc _ _ _ _)
  clear HI1 HF1
  go_wp2_with fail
  refine (put_yes (fo 1) _ HI2.out (by decide)).mono ?_
  rintro e w3 ⟨rfl, I3, F3⟩
  have HI3 : Hid (IsBox w3 o1 b c 2 [fo 1]) := I3
  have HF3 : Hid (Fr (fun _ => False) o0 o1 w w3) := HF2.out.past F3 o0_mk HC.out
  clear I3 F3 HI2 HF2 ob
  go_wp2_with fail
  refine (of_any 2 _).mono ?_
  rintro e w4 ⟨rfl, ob, rfl⟩
  have HI4 : Hid (IsBox (w3.alloc ob) o1 b c 2 [fo 1]) := HI3.out.alloc ob
  have HF4 : Hid (Fr (fun _ => False) o0 o1 w (w3.alloc ob)) := HF3.out.trans (Fr.alloc _ _ _ _)
  clear HI3 HF3
  go_wp2_with fail
  refine (put_yes (fo 2) _ HI4.out (by decide)).mono ?_
  rintro e w5 ⟨rfl, I5, F5⟩
  have HI5 : Hid (IsBox w5 o1 b c 2 [fo 1, fo 2]) := I5
  have HF5 : Hid (Fr (fun _ => False) o0 o1 w w5) := HF4.out.past F5 o0_mk HC.out
  clear I5 F5 HI4 HF4 ob
  go_wp2_with fail
  refine (of_any 3 _).mono ?_
  rintro e w6 ⟨rfl, ob, rfl⟩
  have HI6 : Hid (IsBox (w5.alloc ob) o1 b c 2 [fo 1, fo 2]) := HI5.out.alloc ob
  have HF6 : Hid (Fr (fun _ => False) o0 o1 w (w5.alloc ob)) := HF5.out.trans (Fr.alloc _ _ _ _)
  clear HI5 HF5
  go_wp2_with fail
  refine (put_no (fo 3) _ HI6.out (by decide)).mono ?_
  rintro e w7 ⟨rfl, I7, F7⟩
  have HI7 : Hid (IsBox w7 o1 b c 2 [fo 1, fo 2]) := I7
  have HF7 : Hid (Fr (fun _ => False) o0 o1 w w7) := HF6.out.trans F7
  clear I7 F7 HI6 HF6 ob
  go_wp2_with fail
  refine (take_yes (fo 1) _ HI7.out).mono ?_
  rintro e w8 ⟨rfl, I8, F8⟩
  have F8' : Fr (fun _ => False) o0 o1 w w8 := HF7.out.past F8 o0_mk HC.out
  have FN : Fr (fun _ => False) o1 (lab o1 w8.heap.size (3, 0)) w8 (w8.alloc (.cells (fo 1).cs.toArray 26)) := Fr.new _ _ _ _ _ (fun x => absurd x (by decide))
  obtain ⟨o2, ho2⟩ : ∃ o2, o2 = lab o1 w8.heap.size (3, 0) := ⟨_, rfl⟩
  rw [← ho2] at FN
  have HI9 : Hid (IsBox (w8.alloc (.cells (fo 1).cs.toArray 26)) o2 b c 2 [fo 2]) := I8.fr FN id id
  have HF9 : Hid (Fr (fun _ => False) o0 o2 w (w8.alloc (.cells (fo 1).cs.toArray 26))) := F8'.trans FN
  have HX9 : Hid (One (w8.alloc (.cells (fo 1).cs.toArray 26)) o2 (3, 0) w8.heap.size 3 (.int .i64 1)) := ⟨by rw [World.cell?_alloc_new]; rfl, by rw [ho2]; exact lab_same _ _ _⟩
  clear I8 F8 F8' FN ho2 HI7 HF7
  simp only [fo, F.v, F.cs]
  go_wp2_with fail
  obtain ⟨o3, L3, FL3⟩ := lit_new (w8.alloc (.cells (fo 1).cs.toArray 26)) o2 [1, 2, 3]
  rw [World.size_alloc] at L3
  refine (filled_any 9 9 rfl [1, 2, 3] (by omega) (by omega) (by decide) _ (FL3.mks (HF9.out.mks o0_mk)) L3).mono ?_
  rintro e w10 ⟨b1, c1, o4, rfl, I10, F10, hc1⟩
  obtain ⟨P5, hP5⟩ : ∃ P5, P5 = w8.heap.size := ⟨_, rfl⟩
  rw [← hP5] at HX9 ⊢
  have F10' := FL3.trans F10
  have HI10 : Hid (IsBox w10 o4 b c 2 [fo 2]) := HI9.out.fr F10' id id
  have HF10 : Hid (Fr (fun _ => False) o0 o4 w w10) := HF9.out.trans F10'
  have HX10 : Hid (One w10 o4 (3, 0) P5 3 (.int .i64 1)) := HX9.out.fr F10' id
  have HB10 : Hid (Bxs w10 o4 [some (b1, c1)] [[1, 2, 3]]) := (Bxs.nil _ _).snoc F10 I10 hc1
  have HD10 : Hid (∀ p, some p ∈ [some (b1, c1)] → c < p.2) := fun p hp => by
    simp at hp; subst hp
    obtain ⟨s, r, h⟩ := HI9.out.hc
    have := lt_of_get h
    have := FL3.size
    show c < c1
    omega
  clear HI9 HF9 HX9 L3 FL3 I10 F10 F10' hc1 hP5
  go_wp2_with fail
  refine (filled_any 9 9 rfl [] (by omega) (by omega) (by decide) _ (HF10.out.mks o0_mk) (nil_row _ _ (0, 0))).mono ?_
  rintro e w11 ⟨b2, c2, o5, rfl, I11, F11, hc2⟩
  have HI11 : Hid (IsBox w11 o5 b c 2 [fo 2]) := HI10.out.fr F11 id id
  have HF11 : Hid (Fr (fun _ => False) o0 o5 w w11) := HF10.out.trans F11
  have HX11 : Hid (One w11 o5 (3, 0) P5 3 (.int .i64 1)) := HX10.out.fr F11 id
  have HB11 : Hid (Bxs w11 o5 [some (b1, c1), some (b2, c2)] [[1, 2, 3], []]) := HB10.out.snoc F11 I11 hc2
  have HD11 : Hid (∀ p, some p ∈ [some (b1, c1), some (b2, c2)] → c < p.2) := fun p hp => by
    rcases List.mem_append.1 (show some p ∈ [some (b1, c1)] ++ [some (b2, c2)] from hp) with hp | hp
    · exact HD10.out p hp
    · simp at hp; subst hp
      obtain ⟨s, r, h⟩ := HI10.out.hc
      have := lt_of_get h
      show c < c2
      omega
  clear HI10 HF10 HX10 HB10 HD10 I11 F11 hc2
  go_wp2_with fail
  obtain ⟨o6, L6, FL6⟩ := lit_new w11 o5 [4, 5]
  refine (filled_any 9 9 rfl [4, 5] (by omega) (by omega) (by decide) _ (FL6.mks (HF11.out.mks o0_mk)) L6).mono ?_
  rintro e w12 ⟨b3, c3, o7, rfl, I12, F12, hc3⟩
  have F12' := FL6.trans F12
  have HI12 : Hid (IsBox w12 o7 b c 2 [fo 2]) := HI11.out.fr F12' id id
  have HF12 : Hid (Fr (fun _ => False) o0 o7 w w12) := HF11.out.trans F12'
  have HX12 : Hid (One w12 o7 (3, 0) P5 3 (.int .i64 1)) := HX11.out.fr F12' id
  have HB12 : Hid (Bxs w12 o7 [some (b1, c1), some (b2, c2), some (b3, c3)] [[1, 2, 3], [], [4, 5]]) := (HB11.out.fr FL6 (fun _ _ _ => id) id).snoc F12 I12 hc3
  have HD12 : Hid (∀ p, some p ∈ [some (b1, c1), some (b2, c2), some (b3, c3)] → c < p.2) := fun p hp => by
    rcases List.mem_append.1 (show some p ∈ [some (b1, c1), some (b2, c2)] ++ [some (b3, c3)] from hp) with hp | hp
    · exact HD11.out p hp
    · simp at hp; subst hp
      obtain ⟨s, r, h⟩ := HI11.out.hc
      have := lt_of_get h
      have := FL6.size
      show c < c3
      omega
  obtain ⟨P6, hP6⟩ : ∃ P6, P6 = w11.heap.size := ⟨_, rfl⟩
  rw [← hP6]
  clear HI11 HF11 HX11 HB11 HD11 L6 FL6 I12 F12 F12' hc3 hP6
  go_wp2_with fail
  obtain ⟨o8, L8, FL8⟩ := lit_ps w12 o7 ([some (b1, c1), some (b2, c2), some (b3, c3)].map pv)
  refine (drain_any 4 [some (b1, c1), some (b2, c2), some (b3, c3)] [[1, 2, 3], [], [4, 5]] _ (HB12.out.fr FL8 (fun _ _ _ => id) id) L8 (TB.no (by decide) (by decide)) (by simp) (by decide)).mono ?_
  rintro e w13 ⟨V13, o9, m, rfl, hfx, O13, B13, F13⟩
  have hit := itr_one hfx run_fix
  rw [show ((4 : Int).toNat) = 4 from rfl, show [some (b1, c1), some (b2, c2), some (b3, c3)].length = 3 from rfl] at O13 hit
  rw [hit, show itr 4 3 3 ([[1, 2, 3], [], [4, 5]], []) = ([[3], [], []], [1, 4, 2, 5]) from run_is] at O13
  obtain ⟨a13, d13, rfl, _⟩ := O13.form
  have nTB : ¬ TB [some (b1, c1), some (b2, c2), some (b3, c3)] (1, c) := by
    rintro (h | ⟨b', c', hm, h⟩)
    · cases h
    · injection h with _ h
      have := HD12.out _ hm
      simp only at this
      omega
  have HI13 : Hid (IsBox w13 o9 b c 2 [fo 2]) := (HI12.out.fr FL8 id id).fr F13 nTB (TB.no (by decide) (by decide))
  have HX13 : Hid (One w13 o9 (3, 0) P5 3 (.int .i64 1)) := (HX12.out.fr FL8 id).fr F13 (TB.no (by decide) (by decide))
  have HO13 : Hid (OwnK w13 o9 (7, 2) 9 (.slice a13 4 d13) 4 (fc ([1, 4, 2, 5].map fo))) := O13
  have HM13 : Hid (Mk o9) := F13.mks (FL8.mks (HF12.out.mks o0_mk))
  have HF13 : Hid (Fr (fun t => ¬ t = (0, 0)) o0 o9 w w13) := ((HF12.out.trans FL8).mono (fun _ h => h.elim)).trans (F13.mono (fun t h e => TB.no (by decide) (by decide) (e ▸ h)))
  clear HI12 HF12 HX12 HB12 HD12 L8 FL8 hfx O13 B13 F13 hit nTB
  go_wp2_with fail
  refine (filled_any 9 9 rfl [] (by omega) (by omega) (by decide) _ HM13.out (nil_row _ _ (0, 0))).mono ?_
  rintro e w14 ⟨b4, c4, o10, rfl, I14, F14, hc4⟩
  have HI14 : Hid (IsBox w14 o10 b c 2 [fo 2]) := HI13.out.fr F14 id id
  have HX14 : Hid (One w14 o10 (3, 0) P5 3 (.int .i64 1)) := HX13.out.fr F14 id
  have HO14 : Hid (OwnK w14 o10 (7, 2) 9 (.slice a13 4 d13) 4 (fc ([1, 4, 2, 5].map fo))) := HO13.out.fr F14 id
  have HF14 : Hid (Fr (fun t => ¬ t = (0, 0)) o0 o10 w w14) := HF13.out.trans (F14.mono (fun _ h => h.elim))
  have HB14 : Hid (Bxs w14 o10 [some (b4, c4)] [[]]) := (Bxs.nil _ _).snoc F14 I14 hc4
  have HD14 : Hid (c < c4) := by
    obtain ⟨s, r, h⟩ := HI13.out.hc
    have := lt_of_get h
    show c < c4
    omega
  clear HI13 HX13 HO13 HF13 I14 F14 hc4
  go_wp2_with fail
  obtain ⟨o11, L15, FL15⟩ := lit_new w14 o10 [4, 5]
  refine (filled_any 9 9 rfl [4, 5] (by omega) (by omega) (by decide) _ (FL15.mks (HF14.out.mks o0_mk)) L15).mono ?_
  rintro e w15 ⟨b5, c5, o12, rfl, I15, F15, hc5⟩
  have F15' := FL15.trans F15
  have HI15 : Hid (IsBox w15 o12 b c 2 [fo 2]) := HI14.out.fr F15' id id
  have HX15 : Hid (One w15 o12 (3, 0) P5 3 (.int .i64 1)) := HX14.out.fr F15' id
  have HO15 : Hid (OwnK w15 o12 (7, 2) 9 (.slice a13 4 d13) 4 (fc ([1, 4, 2, 5].map fo))) := HO14.out.fr F15' id
  have HF15 : Hid (Fr (fun t => ¬ t = (0, 0)) o0 o12 w w15) := HF14.out.trans (F15'.mono (fun _ h => h.elim))
  have HB15 : Hid (Bxs w15 o12 [some (b4, c4), some (b5, c5)] [[], [4, 5]]) := (HB14.out.fr FL15 (fun _ _ _ => id) id).snoc F15 I15 hc5
  have HD15 : Hid (c < c5) := by
    obtain ⟨s, r, h⟩ := HI14.out.hc
    have := lt_of_get h
    have := FL15.size
    show c < c5
    omega
  obtain ⟨P7, hP7⟩ : ∃ P7, P7 = w14.heap.size := ⟨_, rfl⟩
  rw [← hP7]
  clear HI14 HX14 HO14 HF14 HB14 L15 FL15 I15 F15 F15' hc5 hP7
  go_wp2_with fail
  obtain ⟨o13, L16, FL16⟩ := lit_ps w15 o12 ([some (b4, c4), some (b5, c5)].map pv)
  refine (first_any [some (b4, c4), some (b5, c5)] [[], [4, 5]] _ (HB15.out.fr FL16 (fun _ _ _ => id) id) L16 (by simp)).mono ?_
  rintro e w16 ⟨⟨o14, F16⟩, hres⟩
  have hres' : e = .returned (.tuple #[.int .i64 1, (fo 4).v, .bool true]) := by
    rcases hres with ⟨i, x, xs, h1, h2, h3⟩ | ⟨h1, _⟩
    · cases i with
      | zero => simp at h2
      | succ i =>
        cases i with
        | zero => simp at h2; rw [h3, ← h2.1]; rfl
        | succ i => have := h1 1 (by omega); simp at this
    · have := h1 1 (by simp); simp at this
  subst hres'
  have nTC : ¬ TC [some (b4, c4), some (b5, c5)] (1, c) := by
    rintro ⟨b', c', hm, h⟩
    injection h with _ h
    have := HD14.out
    have := HD15.out
    simp at hm
    omega
  have FN : Fr (fun _ => False) o14 (lab o14 w16.heap.size (3, 0)) w16 (w16.alloc (.cells (fo 4).cs.toArray 26)) := Fr.new _ _ _ _ _ (fun x => absurd x (by decide))
  obtain ⟨o15, ho15⟩ : ∃ o2, o2 = lab o14 w16.heap.size (3, 0) := ⟨_, rfl⟩
  rw [← ho15] at FN
  have HI17 : Hid (IsBox (w16.alloc (.cells (fo 4).cs.toArray 26)) o15 b c 2 [fo 2]) := ((HI15.out.fr FL16 id id).fr F16 nTC (TC.no (by decide))).fr FN id id
  have HX17 : Hid (One (w16.alloc (.cells (fo 4).cs.toArray 26)) o15 (3, 0) P5 3 (.int .i64 1)) := ((HX15.out.fr FL16 id).fr F16 (TC.no (by decide))).fr FN id
  have HO17 : Hid (OwnK (w16.alloc (.cells (fo 4).cs.toArray 26)) o15 (7, 2) 9 (.slice a13 4 d13) 4 (fc ([1, 4, 2, 5].map fo))) := ((HO15.out.fr FL16 id).fr F16 (TC.no (by decide))).fr FN id
  have HF17 : Hid (Fr (fun t => ¬ t = (0, 0)) o0 o15 w (w16.alloc (.cells (fo 4).cs.toArray 26))) := ((HF15.out.trans (FL16.mono (fun _ h => h.elim))).trans (F16.mono (fun t h e => TC.no (by decide) (e ▸ h)))).trans (FN.mono (fun _ h => h.elim))
  have HY17 : Hid (One (w16.alloc (.cells (fo 4).cs.toArray 26)) o15 (3, 0) w16.heap.size 3 (.int .i64 4)) := ⟨by rw [World.cell?_alloc_new]; rfl, by rw [ho15]; exact lab_same _ _ _⟩
  have hx := HX17.out.1
  have hy := HY17.out.1
  simp only [fo, F.cs] at hx hy
  clear HI15 HX15 HO15 HF15 HB15 HD14 HD15 L16 FL16 F16 FN nTC ho15 hres HM13
  simp only [fo, F.v, F.cs]
  go_wp2_with fail
  refine (len_any _ HI17.out).mono ?_
  rintro e w18 ⟨rfl, rfl⟩
  rw [show (([fo 2] : List F).length : Int) = 1 from rfl]
  clear HI17
  obtain ⟨W, hW⟩ : ∃ W, W = w16.alloc (.cells (fo 4).cs.toArray 26) := ⟨_, rfl⟩
  obtain ⟨P8, hP8⟩ : ∃ P8, P8 = w16.heap.size := ⟨_, rfl⟩
  have hW2 := hW
  simp only [fo, F.cs] at hW2
  rw [← hW2] at hx hy
  rw [← hW] at HX17 HO17 HF17 HY17 ⊢
  rw [← hP8] at hy HY17 ⊢
  clear hW hW2 hP8
  go_wp2_with fail
  refine (rids_any ([1, 4, 2, 5].map fo) (by decide) (by decide) _ HO17.out).mono ?_
  rintro e w19 ⟨V19, o16, rfl, O19, F19⟩
  obtain ⟨a19, d19, rfl, _⟩ := O19.form
  have HX19 : Hid (One w19 o16 (3, 0) P5 3 (.int .i64 1)) := HX17.out.fr F19 (by decide)
  have HY19 : Hid (One w19 o16 (3, 0) P8 3 (.int .i64 4)) := HY17.out.fr F19 (by decide)
  have HF19 : Hid (Fr (fun t => ¬ t = (0, 0)) o0 o16 w w19) := HF17.out.trans (F19.mono (fun t h e => by rw [h] at e; cases e))
  have HO19 : Hid (IntR w19 o16 (7, 1) (.slice a19 4 d19) [1, 4, 2, 5]) := O19.row
  rw [show (([1, 4, 2, 5] : List Int).map fo).length = 4 from rfl]
  clear HX17 HY17 HF17 HO17 O19 F19 hx hy
  go_wp2_with fail
  obtain ⟨o17, L20, FL20⟩ := lit_new w19 o16 [1, 4, 2, 5]
  refine (same_any [1, 4, 2, 5] (by decide) _ (HO19.out.fr FL20 id) L20).mono ?_
  rintro e w20 ⟨rfl, B20⟩
  have HF20 : Hid (Fr (fun t => ¬ t = (0, 0)) o0 o17 w w20) := (HF19.out.trans (FL20.mono (fun _ h => h.elim))).trans (Fr.ofBelow _ _ B20)
  have hy := ((HY19.out.fr FL20 id).fr (Fr.ofBelow (fun _ => False) _ B20) id).1
  clear HX19 HY19 HF19 HO19 L20 FL20 B20
  go_wp2_with fail
  go_ret
  exact ⟨rfl, HF20.out.below (Nat.le_refl _) (fun b _ h => h rfl)⟩
end Go.Proofs.Ytpepklgahljhbaa
