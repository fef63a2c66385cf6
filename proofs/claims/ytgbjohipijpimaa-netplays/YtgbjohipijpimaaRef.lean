/-
  THE REFERENCE'S NET: Send, Pick.
-/
import Derived.Test.YtgbjohipijpimaaDeliver
namespace Go.Proofs.Ytgbjohipijpimaa
open Go.RowKit

set_option maxRecDepth 100000 in
set_option maxHeartbeats 1000000 in
/-- The reference's Send. -/
theorem rsend_any {o : Nat → Nat × Nat} {x b : Nat} {l : List F} (f : F) (hl : l.length < 4000) (w : World) (h : IsNet w o x b l) :
    Calls Try.prog 16 #[.pointer (some ⟨b, 0, none⟩), f.v] w fun e w' => ∃ o', e = .returned (.bool true) ∧ IsNet w' o' x b (l ++ [f]) ∧ Fr (·.1 = x) o o' w w' := by
  obtain ⟨n, hn⟩ : ∃ n, n = l.length := ⟨_, rfl⟩
  obtain ⟨w1, hw1⟩ : ∃ w1, w1 = (w.alloc (.cells f.cs.toArray 26)) := ⟨_, rfl⟩
  have FA : Fr (fun _ => False) o o w w1.drew := by rw [hw1]; exact (Fr.alloc _ o w _).trans (Fr.drew1 _ _ _)
  have h1 := h.fr FA id id
  obtain ⟨a, c, hc, hO⟩ := h1.li
  rw [← hn] at hc hO hl
  obtain ⟨v3, w3, o3, hrun, O3, F3⟩ := app_one 32 26 Z.v 88 under32 info26 cells26 hO f.cs rfl (cs_one f) (by omega) (by omega)
  obtain ⟨a3, c3, rfl, _⟩ := O3.form
  have O3' : OwnK w3 o3 (x, 1) 9 (.slice a3 (n + 1) c3) (n + 1) (fc (l ++ [f])) := by rw [fc_append, fc_single]; exact O3
  obtain ⟨I4, F4⟩ := h1.set F3 (show n + 1 = (l ++ [f]).length by rw [List.length_append, hn]; rfl) O3'
  have HI : Hid (IsNet (w3.setCell ⟨b, 0, none⟩ (.slice a3 (n + 1) c3)) o3 x b (l ++ [f]) ∧ Fr (·.1 = x) o o3 w (w3.setCell ⟨b, 0, none⟩ (.slice a3 (n + 1) c3))) := ⟨I4, (FA.mono (fun _ h => h.elim)).trans F4⟩
  have sz : w1.drew.heap.size = w.heap.size + 1 := by rw [hw1]; simp
  have hb : ¬ (o b = (x, 1)) := by rw [h.ob]; intro e; cases e
  have t3 := F3.cell hc hb
  have t4 := (F3.frozen (off := 0) h1.lt hb).trans h1.fz
  rw [sz] at hrun
  have hc0 : w1.cell? ⟨b, 0, none⟩ = some (.slice a n c) := hc
  have t2 := new_up (.cells f.cs.toArray 26) hc0
  rw [hw1] at hrun t2 hc0
  have s0 : decide ((4000 : Int) ≤ (n : Int)) = false := by simp; omega
  obtain ⟨p0, p1, p2, p3, p4, p5, p6, p7, p8⟩ := f
  simp only [F.v, F.cs] at hrun t2 hc0 ⊢
  clear hc
  clear h1 hO O3 O3' F3 I4 F4 FA hw1 sz hb h hn
  go_enter Try.func16, Try.ntmps16
  go_wp2_with fail
  go_region_law (refine step_app4 hrun (.tmp 15) (.tmp 17) (by rfl) (by rfl) (by rfl) (by rfl) (by rfl) (by rfl) ?_)
  all_goals
    go_wp2_with fail
    go_ret
    exact ⟨o3, rfl, HI.out⟩
set_option maxRecDepth 100000 in
set_option maxHeartbeats 1000000 in
/-- Pick, where no frame is. -/
theorem rpick_no {o : Nat → Nat × Nat} {x b : Nat} {l : List F} (k : Int) (keep : Bool) (hk : k < 0 ∨ (l.length : Int) ≤ k) (w : World) (h : IsNet w o x b l) :
    Calls Try.prog 17 #[.pointer (some ⟨b, 0, none⟩), .int .i64 k, .bool keep] w fun e w' => e = .returned (.tuple #[Z.v, .bool false]) ∧ Fr (fun _ => False) o o w w' := by
  obtain ⟨a, c, h1, _⟩ := (h.alloc (.cells #[.int .i64 0, .int .i64 0, .int .i64 0, .int .i64 0, .int .i64 0, .int .i64 0, .string ⟨#[]⟩, .int .i64 0, .string ⟨#[]⟩] 26)).li
  obtain ⟨n, hn⟩ : ∃ n, n = l.length := ⟨_, rfl⟩
  rw [← hn] at h1 hk
  simp only [Z, F.v, F.cs]
  by_cases hk0 : k < 0
  · clear h hn hk
    go_enter Try.func17, Try.ntmps17
    go_wp2_with fail
    refine bodyPost_ret (v := .tuple #[.agg #[.int .i64 0, .int .i64 0, .int .i64 0, .int .i64 0, .int .i64 0, .int .i64 0, .string ⟨#[]⟩, .int .i64 0, .string ⟨#[]⟩], .bool false]) (by simp [results, Try.results17]; go_simp) rfl ?_
    exact ⟨rfl, Fr.alloc _ o w _⟩
  · have k0 : decide (k < 0) = false := by simp; omega
    have k1 : decide ((n : Int) ≤ k) = true := by simp; omega
    clear h hn hk
    go_enter Try.func17, Try.ntmps17
    go_wp2_with fail
    refine bodyPost_ret (v := .tuple #[.agg #[.int .i64 0, .int .i64 0, .int .i64 0, .int .i64 0, .int .i64 0, .int .i64 0, .string ⟨#[]⟩, .int .i64 0, .string ⟨#[]⟩], .bool false]) (by simp [results, Try.results17]; go_simp) rfl ?_
    exact ⟨rfl, Fr.alloc _ o w _⟩
set_option maxRecDepth 100000 in
set_option maxHeartbeats 1000000 in
/-- Pick, of a frame that stays. -/
theorem rpick_keep {o : Nat → Nat × Nat} {x b : Nat} {l : List F} (k : Nat) (f : F) (hf : l[k]? = some f) (w : World) (h : IsNet w o x b l) :
    Calls Try.prog 17 #[.pointer (some ⟨b, 0, none⟩), .int .i64 (k : Int), .bool true] w fun e w' => e = .returned (.tuple #[f.v, .bool true]) ∧ Fr (fun _ => False) o o w w' := by
  have hk := (List.getElem?_eq_some_iff.1 hf).1
  obtain ⟨a, c, h1, h2⟩ := (h.alloc (.cells #[.int .i64 0, .int .i64 0, .int .i64 0, .int .i64 0, .int .i64 0, .int .i64 0, .string ⟨#[]⟩, .int .i64 0, .string ⟨#[]⟩] 26)).li
  obtain ⟨g, e, _, og, hfr⟩ := h2.frame hf
  subst e
  obtain ⟨y0, y1, y2, y3, y4, y5, y6, y7, y8⟩ := hfr.cells
  obtain ⟨n, hn⟩ : ∃ n, n = l.length := ⟨_, rfl⟩
  rw [← hn] at h1 hk
  have k0 : decide ((k : Int) < 0) = false := by simp
  have k1 : decide ((n : Int) ≤ (k : Int)) = false := by simp; omega
  have k2 : (k : Int) < (n : Int) := by omega
  obtain ⟨p0, p1, p2, p3, p4, p5, p6, p7, p8⟩ := f
  simp only [F.v, F.cs]
  clear h h2 hfr hf hn
  go_enter Try.func17, Try.ntmps17
  go_wp2_with fail
  refine bodyPost_ret (v := .tuple #[.agg #[.int .i64 p0, .int .i64 p1, .int .i64 p2, .int .i64 p3, .int .i64 p4, .int .i64 p5, .string p6, .int .i64 p7, .string p8], .bool true]) (by simp [results, Try.results17]; go_simp) rfl ?_
  exact ⟨rfl, (Fr.alloc _ o w _).trans (Fr.alloc _ o _ _)⟩
set_option maxRecDepth 100000 in
set_option maxHeartbeats 2000000 in
/-- Pick, of a frame that goes. -/
theorem rpick_out {o : Nat → Nat × Nat} {x b : Nat} {l : List F} (k : Nat) (f : F) (hf : l[k]? = some f) (hl : l.length ≤ 100000) (hx : x ≠ 0) (w : World) (h : IsNet w o x b l) :
    Calls Try.prog 17 #[.pointer (some ⟨b, 0, none⟩), .int .i64 (k : Int), .bool false] w fun e w' => e = .returned (.tuple #[f.v, .bool true]) ∧ ∃ o', IsNet w' o' x b (out l k) ∧ Fr (·.1 = x) o o' w w' := by
  have hk := (List.getElem?_eq_some_iff.1 hf).1
  obtain ⟨n, hn⟩ : ∃ n, n = l.length := ⟨_, rfl⟩
  -- the variables
  obtain ⟨B, hB⟩ : ∃ B, B = w.heap.size := ⟨_, rfl⟩
  obtain ⟨wz, hwz⟩ : ∃ wz, wz = w.alloc (.cells Z.cs.toArray 26) := ⟨_, rfl⟩
  have FZ : Fr (fun _ => False) o (lab o B (0, 1)) w wz := by rw [hwz, hB]; exact Fr.new _ o w _ _
  have NZ : Nine wz B Z := by rw [hwz, hB]; exact Nine.new w Z
  have szz : wz.heap.size = B + 1 := by rw [hwz, hB]; simp
  obtain ⟨wf, hwf⟩ : ∃ wf, wf = wz.alloc (.cells f.cs.toArray 26) := ⟨_, rfl⟩
  obtain ⟨oz, hoz⟩ : ∃ oz, oz = lab o B (0, 1) := ⟨_, rfl⟩
  have ozB : oz B = (0, 1) := by rw [hoz]; exact lab_same _ _ _
  rw [← hoz] at FZ
  have FF : Fr (fun _ => False) oz (lab oz (B + 1) (0, 1)) wz wf := by rw [hwf, ← szz]; exact Fr.new _ oz wz _ _
  have NF : Nine wf (B + 1) f := by rw [hwf, ← szz]; exact Nine.new wz f
  obtain ⟨of_, hof⟩ : ∃ oz', oz' = lab oz (B + 1) (0, 1) := ⟨_, rfl⟩
  have ofC : of_ (B + 1) = (0, 1) := by rw [hof]; exact lab_same _ _ _
  have ofB : of_ B = (0, 1) := by rw [hof, lab_other _ _ _ (by omega)]; exact ozB
  rw [← hof] at FF
  have NZf := NZ.fr FF id
  have Iz := h.fr FZ id id
  have If := Iz.fr FF id id
  obtain ⟨az, cz, hcz, hOz⟩ := Iz.li
  obtain ⟨g, eg, _, og, hfr⟩ := hOz.frame hf
  subst eg
  obtain ⟨y0, y1, y2, y3, y4, y5, y6, y7, y8⟩ := hfr.cells
  have hcf := FF.cell hcz id
  have hOf := hOz.fr FF id
  rw [← hn] at hcz hcf hOf hk hl
  have hvc : n ≤ cz := by
    obtain ⟨a, c', e, hc⟩ := hOf.form
    injection e with _ _ e
    omega
  -- the frame taken out
  have OD : OwnK wf.drew of_ (x, 1) 9 (.slice (some ⟨g, 0, none⟩) n cz) n (fc l) := hOf.fr (Fr.drew1 (fun _ => False) of_ wf) id
  obtain ⟨a6, q6, w6, run1, B6, _, hrest⟩ := erase_own (i := k) (x, 1) 32 26 Z.v 88 under32 info26 cells26 OD (by omega) (by omega) (by omega)
  obtain ⟨a7, q7, w7, o7, run2, O7, F7⟩ := hrest hk
  rw [fc_out] at O7
  have FW : ∀ U, Fr U of_ o7 wf w7 := fun U => (Fr.drew1 _ of_ wf).trans (F7 U)
  obtain ⟨I8, F8⟩ := If.set (FW _) (show n - 1 = (out l k).length by rw [out_length (by omega), hn]) O7
  have t1 := new_up (.cells #[] 26) hcf
  have t2 : w6.cell? ⟨b, 0, none⟩ = some (.slice (some ⟨g, 0, none⟩) n cz) := cell_up (w := wf.drew) B6 hcf
  have t3 := (FW (fun _ => False)).cell hcf id
  have t4 := ((FW (fun _ => False)).frozen (off := 0) If.lt id).trans If.fz
  have xB : ¬ ((of_ B).1 = x) := by rw [ofB]; exact fun e => hx e.symm
  have xC : ¬ ((of_ (B + 1)).1 = x) := by rw [ofC]; exact fun e => hx e.symm
  have NZ8 := NZf.fr F8 xB
  have NF8 := NF.fr F8 xC
  obtain ⟨c0, c1, c2, c3, c4, c5, c6, c7, c8⟩ := NZ8.at_.cells
  obtain ⟨d0, d1, d2, d3, d4, d5, d6, d7, d8⟩ := NF8.at_.cells
  have z := NZ8.frozen
  have o7B : o7 B = (0, 1) := (F8.lab B (lt_of_get NZf)).trans ofB
  have HI : Hid (IsNet (w7.setCell ⟨b, 0, none⟩ (.slice a7 (n - 1) q7)) o7 x b (out l k)) := I8
  have HF : Hid (Fr (·.1 = x) o o7 w (w7.setCell ⟨b, 0, none⟩ (.slice a7 (n - 1) q7))) := ((FZ.trans FF).mono (fun _ h => h.elim)).trans F8
  have HO7 : Hid (o7 B = (0, 1)) := o7B
  have HB : Hid (w.heap.size ≤ B) := by rw [hB]; exact Nat.le_refl _
  have HX : Hid (x ≠ 0) := hx
  obtain ⟨W8, hW8⟩ : ∃ W8, W8 = w7.setCell ⟨b, 0, none⟩ (.slice a7 (n - 1) q7) := ⟨_, rfl⟩
  have sl1 := slice_hiT 32 26 9 elem32 elem32' size26' g n cz k (by omega)
  have sl2 : ∀ w, (Instr.sliceAt 32 (.slice (some ⟨g, 0, none⟩) n cz) (some (.int .i64 ((k : Int) + 1))) none none).run Try.prog w = .ok (.slice (some (cutA g (k + 1) cz 9)) (n - (k + 1)) (cz - (k + 1))) w := slice_loT 32 26 9 elem32 elem32' size26' g n cz (k + 1) (by omega)
  have hwk : IntKind.i64.wrap ((k : Int) + 1) = (k : Int) + 1 := by rw [IntKind.wrap_i64]; omega
  have k0 : decide ((k : Int) < 0) = false := by simp
  have k1 : decide ((n : Int) ≤ (k : Int)) = false := by simp; omega
  have k2 : (k : Int) < (n : Int) := by omega
  have szf : wf.drew.heap.size = B + 1 + 1 := by rw [hwf]; simp [szz]
  rw [szf, hwf, hwz] at run1
  rw [hwf, hwz] at t1 hcf
  rw [hwz] at y0 y1 y2 y3 y4 y5 y6 y7 y8 hcz
  have HBE : Hid (w.heap.size = B) := hB.symm
  obtain ⟨p0, p1, p2, p3, p4, p5, p6, p7, p8⟩ := f
  simp only [Z, F.cs] at run1 t1 hcf y0 y1 y2 y3 y4 y5 y6 y7 y8 hcz c0 c1 c2 c3 c4 c5 c6 c7 c8 d0 d1 d2 d3 d4 d5 d6 d7 d8 z
  rw [hB] at run1 d0 d1 d2 d3 d4 d5 d6 d7 d8 c0 c1 c2 c3 c4 c5 c6 c7 c8 z HB HO7
  simp only [F.v, F.cs]
  clear h hf hn hB hwz FZ NZ szz hwf hoz ozB FF NF hof ofC ofB NZf Iz If hOz og hfr hOf OD B6 hrest O7 F7 FW I8 F8 xB xC NZ8 NF8 o7B szf HBE hW8 hx
  go_enter Try.func17, Try.ntmps17
  go_wp2_with fail
  go_region_law (first | (refine step_app4 run1 (.tmp 31) (.tmp 37) (by rfl) (by rfl) (by rfl) (by rfl) (by rfl) (by rfl) ?_) | (refine step_app4 run2 (.tmp 38) (.tmp 45) (by with_reducible rfl) (by rfl) (by rfl) (by rfl) (by rfl) (by rfl) ?_))
  all_goals
    go_wp2_with fail
    refine bodyPost_ret (v := .tuple #[.agg #[.int .i64 p0, .int .i64 p1, .int .i64 p2, .int .i64 p3, .int .i64 p4, .int .i64 p5, .string p6, .int .i64 p7, .string p8], .bool true]) (by simp [results, Try.results17]; go_simp) rfl ?_
    refine ⟨rfl, o7, ?_, HF.out.nine HB.out _ _ _ _ _ _ _ _ _⟩
    have fz : ∀ (W : World) (j : Nat) (u : Value), Fr (· = (0, 1)) o7 o7 W (W.setCell ⟨w.heap.size, j, none⟩ u) := fun W j u => Fr.set (a := ⟨w.heap.size, j, none⟩) HO7.out u
    refine HI.out.fr (((((((((fz _ _ _).trans (fz _ _ _)).trans (fz _ _ _)).trans (fz _ _ _)).trans (fz _ _ _)).trans (fz _ _ _)).trans (fz _ _ _)).trans (fz _ _ _)).trans (fz _ _ _)) ?_ ?_
    · intro e; injection e with _ e; cases e
    · intro e; injection e with e _; exact HX.out e
end Go.Proofs.Ytgbjohipijpimaa
