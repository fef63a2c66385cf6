/-
  DELIVER of a net.
-/
import Derived.Test.YtgbjohipijpimaaDel
namespace Go.Proofs.Ytgbjohipijpimaa
open Go.RowKit

set_option maxRecDepth 100000 in
set_option maxHeartbeats 1000000 in
theorem deliver_no {o : Nat → Nat × Nat} {x b : Nat} {l : List F} (k : Int) (hk : k < 0 ∨ (l.length : Int) ≤ k) (w : World) (h : IsNet w o x b l) :
    Calls Try.prog 10 #[.pointer (some ⟨b, 0, none⟩), .int .i64 k] w fun e w' => e = .returned (.tuple #[Z.v, .bool false]) ∧ Fr (fun _ => False) o o w w' := by
  have HA : Hid (Fr (fun _ => False) o o w (w.alloc (.cells Z.cs.toArray 26))) := Fr.alloc _ o w _
  have HI : Hid (IsNet (w.alloc (.cells Z.cs.toArray 26)) o x b l) := h.alloc _
  have HN : Hid (Nine (w.alloc (.cells Z.cs.toArray 26)) w.heap.size Z) := Nine.new w Z
  obtain ⟨B, hB⟩ : ∃ B, B = w.heap.size := ⟨_, rfl⟩
  have HB : Hid (w.heap.size ≤ B) := by rw [hB]; exact Nat.le_refl _
  have HBE : Hid (w.heap.size = B) := hB.symm
  have HK : Hid (k < 0 ∨ (l.length : Int) ≤ k) := hk
  rw [← hB] at HN
  simp only [Z, F.v, F.cs] at HI HA HN ⊢
  clear h hk hB
  go_enter Try.func10, Try.ntmps10
  go_wp2_with fail
  refine (copy_no k HK.out _ HI.out).mono ?_
  rintro e w1 ⟨rfl, F1⟩
  simp only [Z, F.v, F.cs]
  rw [HBE.out]
  have F2 := F1.trans (Fr.alloc _ _ _ (.cells Z.cs.toArray 26))
  have N2 := HN.out.fr F2 id
  obtain ⟨c0, c1, c2, c3, c4, c5, c6, c7, c8⟩ := N2.at_.cells
  have z := N2.frozen
  have HF2 := HA.out.trans F2
  simp only [Z, F.cs] at c0 c1 c2 c3 c4 c5 c6 c7 c8 z HF2
  have HF : Hid (Fr (fun _ => False) o o w (w1.alloc (.cells #[.int .i64 0, .int .i64 0, .int .i64 0, .int .i64 0, .int .i64 0, .int .i64 0, .string ⟨#[]⟩, .int .i64 0, .string ⟨#[]⟩] 26))) := HF2
  clear F1 F2 N2 HF2 HI HN
  go_wp2_with fail
  refine bodyPost_ret (v := .tuple #[.agg #[.int .i64 0, .int .i64 0, .int .i64 0, .int .i64 0, .int .i64 0, .int .i64 0, .string ⟨#[]⟩, .int .i64 0, .string ⟨#[]⟩], .bool false]) (by simp [results, Try.results10]; go_simp) rfl ?_
  exact ⟨rfl, HF.out.nine HB.out _ _ _ _ _ _ _ _ _⟩
set_option maxRecDepth 100000 in
set_option maxHeartbeats 1000000 in
theorem deliver_yes {o : Nat → Nat × Nat} {x b : Nat} {l : List F} (k : Nat) (f : F) (hf : l[k]? = some f) (hl : l.length ≤ 100000) (hx : x ≠ 0) (w : World) (h : IsNet w o x b l) :
    Calls Try.prog 10 #[.pointer (some ⟨b, 0, none⟩), .int .i64 (k : Int)] w fun e w' => e = .returned (.tuple #[f.v, .bool true]) ∧ ∃ o', IsNet w' o' x b (out l k) ∧ Fr (·.1 = x) o o' w w' := by
  have HA : Hid (Fr (fun _ => False) o (lab o w.heap.size (0, 1)) w (w.alloc (.cells Z.cs.toArray 26))) := Fr.new _ o w _ _
  have HI : Hid (IsNet (w.alloc (.cells Z.cs.toArray 26)) (lab o w.heap.size (0, 1)) x b l) := h.fr HA.out id id
  have HN : Hid (Nine (w.alloc (.cells Z.cs.toArray 26)) w.heap.size Z) := Nine.new w Z
  have HL : Hid (lab o w.heap.size (0, 1) w.heap.size = (0, 1)) := lab_same _ _ _
  obtain ⟨B, hB⟩ : ∃ B, B = w.heap.size := ⟨_, rfl⟩
  have HB : Hid (w.heap.size ≤ B) := by rw [hB]; exact Nat.le_refl _
  have HBE : Hid (w.heap.size = B) := hB.symm
  have HK : Hid (l[k]? = some f) := hf
  have HX : Hid (x ≠ 0) := hx
  have HLL : Hid (l.length ≤ 100000) := hl
  rw [← hB] at HN HL HI HA
  obtain ⟨o1, ho1⟩ : ∃ o1, o1 = lab o B (0, 1) := ⟨_, rfl⟩
  rw [← ho1] at HI HA HL
  obtain ⟨p0, p1, p2, p3, p4, p5, p6, p7, p8⟩ := f
  simp only [Z, F.v, F.cs] at HI HA HN ⊢
  clear h hf hB ho1 hx hl
  go_enter Try.func10, Try.ntmps10
  go_wp2_with fail
  refine (copy_yes k ⟨p0, p1, p2, p3, p4, p5, p6, p7, p8⟩ HK.out _ HI.out).mono ?_
  rintro e w1 ⟨rfl, F1⟩
  simp only [F.v, F.cs]
  rw [HBE.out]
  obtain ⟨C, hC⟩ : ∃ C, C = w1.heap.size := ⟨_, rfl⟩
  have FN : Fr (fun _ => False) o1 (lab o1 C (0, 1)) w1 (w1.alloc (.cells (⟨p0, p1, p2, p3, p4, p5, p6, p7, p8⟩ : F).cs.toArray 26)) := by rw [hC]; exact Fr.new _ o1 w1 _ _
  have NC : Nine (w1.alloc (.cells (⟨p0, p1, p2, p3, p4, p5, p6, p7, p8⟩ : F).cs.toArray 26)) C ⟨p0, p1, p2, p3, p4, p5, p6, p7, p8⟩ := by rw [hC]; exact Nine.new w1 _
  have oC : lab o1 C (0, 1) C = (0, 1) := lab_same _ _ _
  obtain ⟨o2, ho2⟩ : ∃ o2, o2 = lab o1 C (0, 1) := ⟨_, rfl⟩
  rw [← ho2] at FN oC
  have F2 := F1.trans FN
  have oB : o2 B = (0, 1) := (F2.lab B (lt_of_get HN.out)).trans HL.out
  have HI2 : Hid (IsNet (w1.alloc (.cells (⟨p0, p1, p2, p3, p4, p5, p6, p7, p8⟩ : F).cs.toArray 26)) o2 x b l) := HI.out.fr F2 id id
  have HA2 : Hid (Fr (fun _ => False) o o2 w (w1.alloc (.cells (⟨p0, p1, p2, p3, p4, p5, p6, p7, p8⟩ : F).cs.toArray 26))) := HA.out.trans F2
  have HNB : Hid (Nine (w1.alloc (.cells (⟨p0, p1, p2, p3, p4, p5, p6, p7, p8⟩ : F).cs.toArray 26)) B Z) := HN.out.fr F2 id
  have HNC : Hid (Nine (w1.alloc (.cells (⟨p0, p1, p2, p3, p4, p5, p6, p7, p8⟩ : F).cs.toArray 26)) C ⟨p0, p1, p2, p3, p4, p5, p6, p7, p8⟩) := NC
  have HO : Hid (o2 B = (0, 1) ∧ o2 C = (0, 1)) := ⟨oB, oC⟩
  have HNE : Hid (B ≠ C) := fun e => by
    have h1 := lt_of_get HN.out
    have h2 := F1.size
    omega
  have HCE : Hid (w1.heap.size = C) := hC.symm
  simp only [F.cs] at HI2 HA2 HNB HNC
  clear hC FN NC oC ho2 F2 oB F1 HI HN HA HL
  go_wp2_with fail
  refine (remove_any k (List.getElem?_eq_some_iff.1 HK.out).1 HLL.out _ HI2.out).mono ?_
  rintro e w3 ⟨rfl, I3, F3⟩
  rw [HCE.out]
  have tB : ¬ ((o2 B).1 = x) := by rw [HO.out.1]; exact fun e => HX.out e.symm
  have tC : ¬ ((o2 C).1 = x) := by rw [HO.out.2]; exact fun e => HX.out e.symm
  have NB3 := HNB.out.fr F3 tB
  have NC3 := HNC.out.fr F3 tC
  obtain ⟨c0, c1, c2, c3, c4, c5, c6, c7, c8⟩ := NB3.at_.cells
  obtain ⟨d0, d1, d2, d3, d4, d5, d6, d7, d8⟩ := NC3.at_.cells
  have z := NB3.frozen
  simp only [Z] at c0 c1 c2 c3 c4 c5 c6 c7 c8 d0 d1 d2 d3 d4 d5 d6 d7 d8
  have HI3 : Hid (IsNet w3 o2 x b (out l k) ∧ w3.heap[B]? = w3.heap[B]? ∧ o2 B = (0, 1)) := ⟨I3, rfl, HO.out.1⟩
  have HF3 : Hid (Fr (·.1 = x) o o2 w w3) := (HA2.out.mono (fun _ h => h.elim)).trans F3
  clear I3 F3 NB3 NC3 HI2 HA2 HNB HNC tB tC
  go_wp2_with fail
  refine bodyPost_ret (v := .tuple #[.agg #[.int .i64 p0, .int .i64 p1, .int .i64 p2, .int .i64 p3, .int .i64 p4, .int .i64 p5, .string p6, .int .i64 p7, .string p8], .bool true]) (by simp [results, Try.results10]; go_simp) rfl ?_
  refine ⟨rfl, o2, ?_, HF3.out.nine HB.out _ _ _ _ _ _ _ _ _⟩
  have fz : ∀ (W : World) (j : Nat) (u : Value), Fr (· = (0, 1)) o2 o2 W (W.setCell ⟨B, j, none⟩ u) := fun W j u => Fr.set (a := ⟨B, j, none⟩) HO.out.1 u
  refine HI3.out.1.fr (((((((((fz _ _ _).trans (fz _ _ _)).trans (fz _ _ _)).trans (fz _ _ _)).trans (fz _ _ _)).trans (fz _ _ _)).trans (fz _ _ _)).trans (fz _ _ _)).trans (fz _ _ _)) ?_ ?_
  · intro e; injection e with _ e; cases e
  · intro e; injection e with e _; exact HX.out e
end Go.Proofs.Ytgbjohipijpimaa
