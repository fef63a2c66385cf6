/-
  NETRUNS walked.
-/
import Derived.Test.YtgbjohipijpimaaDeliver
namespace Go.Proofs.Ytgbjohipijpimaa
open Go.RowKit

/-- No block has a mark. -/
def o0 : Nat → Nat × Nat := fun _ => (0, 0)
/-- Marks other than none. -/
def TN (t : Nat × Nat) : Prop := ¬ t = (0, 0)
theorem TN.of {x : Nat} (hx : x ≠ 0) {t : Nat × Nat} (h : t.1 = x) : TN t := fun e => by rw [e] at h; exact hx h.symm
theorem out3 (a b c : F) : out [a, b, c] 1 = [a, c] := rfl
theorem out2 (a b : F) : out [a, b] 0 = [b] := rfl
/-- A frame in a block of its own, with a mark. -/
structure Mine (w : World) (o : Nat → Nat × Nat) (B : Nat) (f : F) : Prop where
  nine : Nine w B f
  ob : o B = (8, 0)
theorem Mine.fr {T : Nat × Nat → Prop} {w w' : World} {o o' : Nat → Nat × Nat} {B : Nat} {f : F} (h : Mine w o B f) (x : Fr T o o' w w') (ht : ¬ T (8, 0)) : Mine w' o' B f :=
  ⟨h.nine.fr x (by rw [h.ob]; exact ht), (x.lab B (lt_of_get h.nine)).trans h.ob⟩
theorem Mine.new (w : World) (o : Nat → Nat × Nat) (f : F) : ∃ o', Mine (w.alloc (.cells f.cs.toArray 26)) o' w.heap.size f ∧ ∀ T, Fr T o o' w (w.alloc (.cells f.cs.toArray 26)) :=
  ⟨lab o w.heap.size (8, 0), ⟨Nine.new w f, lab_same _ _ _⟩, fun T => Fr.new T o w _ _⟩
theorem of_up (n : Int) (w : World) : Calls Try.prog 9 #[.int .i64 n] w fun e w' => e = .returned (fo n).v ∧ Below w.heap.size w w' := by
  refine (of_any n w).mono ?_
  rintro e w' ⟨rfl, ob, rfl⟩
  exact ⟨rfl, (Below.refl _ _).alloc (Nat.le_refl _) _⟩
theorem up_lit {w w' : World} (h : Below w.heap.size w w') (n : Int) : Below w.heap.size w (w'.alloc (.cells #[.int .i64 0, .int .i64 0, .int .i64 0, .int .i64 n, .int .i64 0, .int .i64 0, .string ⟨#[]⟩, .int .i64 0, .string ⟨#[]⟩] 26)) := h.alloc h.size _
/-- A list of one frame, written out. -/
theorem lit_own (w : World) (o : Nat → Nat × Nat) (t : Nat × Nat) (f : F) : OwnK (w.alloc (.cells f.cs.toArray 26)) (lab o w.heap.size t) t 9 (.slice (some ⟨w.heap.size, 0, none⟩) 1 1) 1 (fc [f]) := by
  have := own_new (w := w) (o := o) (t := t) (k := 9) (n := 1) (cap := 1) (e := 26) f.cs #[] rfl (cs_one f) (Nat.le_refl _) (by unfold maxLen; omega) (by simp)
  rw [fc_single]
  simpa using this
/-- Same, of a list of one frame and one that is written out. -/
theorem same_lit {o1 : Nat → Nat × Nat} {t1 : Nat × Nat} {a1 : Option Addr} {c1 : Nat} (n : Int) (w : World) (h1 : OwnK w o1 t1 9 (.slice a1 1 c1) 1 (fc [fo n])) :
    Calls Try.prog 13 #[.slice a1 1 c1, .slice (some ⟨w.heap.size, 0, none⟩) 1 1] (w.alloc (.cells #[.int .i64 0, .int .i64 0, .int .i64 0, .int .i64 n, .int .i64 0, .int .i64 0, .string ⟨#[]⟩, .int .i64 0, .string ⟨#[]⟩] 26)) fun e w' => e = .returned (.bool true) ∧ Below w.heap.size w w' := by
  refine (same_any [fo n] 1 (by omega) _ (h1.fr (Fr.alloc (fun _ => False) o1 w _) id) (lit_own w o0 (9, 9) (fo n))).mono ?_
  rintro e w' ⟨rfl, b⟩
  have b0 := (Below.refl w.heap.size w).alloc (Nat.le_refl _) (.cells (fo n).cs.toArray 26)
  exact ⟨rfl, b0.trans (b.mono b0.size)⟩
set_option maxRecDepth 100000 in
set_option maxHeartbeats 2000000 in
theorem runs_any (w : World) : Calls Try.prog 3 #[] w fun e w' => e = .returned (.bool true) ∧ Below w.heap.size w w' := by
  go_enter Try.func3, Try.ntmps3
  go_wp2_with fail
  refine (new_any 2 _ o0).mono ?_
  rintro e w1 ⟨b, o1, rfl, I1, F1⟩
  have HI1 : Hid (IsNet w1 o1 2 b []) := I1
  have HF1 : Hid (Fr TN o0 o1 w w1) := F1.mono (fun _ h => h.elim)
  clear I1 F1
  go_wp2_with fail
  refine (of_any 1 _).mono ?_
  rintro e w2 ⟨rfl, ob, rfl⟩
  have HI2 : Hid (IsNet (w1.alloc ob) o1 2 b []) := HI1.out.alloc ob
  have HF2 : Hid (Fr TN o0 o1 w (w1.alloc ob)) := HF1.out.trans (Fr.alloc _ _ _ _)
  clear HI1 HF1
  go_wp2_with fail
  refine (send_any (fo 1) (by decide) _ HI2.out).mono ?_
  rintro e w3 ⟨o3, rfl, I3, F3⟩
  have HI3 : Hid (IsNet w3 o3 2 b [fo 1]) := I3
  have HF3 : Hid (Fr TN o0 o3 w w3) := HF2.out.trans (F3.mono (fun t h => TN.of (by decide) h))
  clear I3 F3 HI2 HF2 ob
  go_wp2_with fail
  refine (of_any 2 _).mono ?_
  rintro e w4 ⟨rfl, ob, rfl⟩
  have HI4 : Hid (IsNet (w3.alloc ob) o3 2 b [fo 1]) := HI3.out.alloc ob
  have HF4 : Hid (Fr TN o0 o3 w (w3.alloc ob)) := HF3.out.trans (Fr.alloc _ _ _ _)
  clear HI3 HF3
  go_wp2_with fail
  refine (send_any (fo 2) (by decide) _ HI4.out).mono ?_
  rintro e w5 ⟨o5, rfl, I5, F5⟩
  have HI5 : Hid (IsNet w5 o5 2 b [fo 1, fo 2]) := I5
  have HF5 : Hid (Fr TN o0 o5 w w5) := HF4.out.trans (F5.mono (fun t h => TN.of (by decide) h))
  clear I5 F5 HI4 HF4 ob
  go_wp2_with fail
  refine (of_any 3 _).mono ?_
  rintro e w6 ⟨rfl, ob, rfl⟩
  have HI6 : Hid (IsNet (w5.alloc ob) o5 2 b [fo 1, fo 2]) := HI5.out.alloc ob
  have HF6 : Hid (Fr TN o0 o5 w (w5.alloc ob)) := HF5.out.trans (Fr.alloc _ _ _ _)
  clear HI5 HF5
  go_wp2_with fail
  refine (send_any (fo 3) (by decide) _ HI6.out).mono ?_
  rintro e w7 ⟨o7, rfl, I7, F7⟩
  have HI7 : Hid (IsNet w7 o7 2 b [fo 1, fo 2, fo 3]) := I7
  have HF7 : Hid (Fr TN o0 o7 w w7) := HF6.out.trans (F7.mono (fun t h => TN.of (by decide) h))
  clear I7 F7 HI6 HF6 ob
  go_wp2_with fail
  refine (deliver_yes 1 (fo 2) rfl (by decide) (by decide) _ HI7.out).mono ?_
  rintro e w8 ⟨rfl, o8, I8, F8⟩
  rw [out3] at I8
  obtain ⟨o9, M9, N9⟩ := Mine.new w8 o8 (fo 2)
  have HI9 : Hid (IsNet (w8.alloc (.cells (fo 2).cs.toArray 26)) o9 2 b [fo 1, fo 3]) := I8.fr (N9 (fun _ => False)) id id
  have HF9 : Hid (Fr TN o0 o9 w (w8.alloc (.cells (fo 2).cs.toArray 26))) := (HF7.out.trans (F8.mono (fun t h => TN.of (by decide) h))).trans (N9 _)
  have HM9 : Hid (Mine (w8.alloc (.cells (fo 2).cs.toArray 26)) o9 w8.heap.size (fo 2)) := M9
  clear I8 F8 M9 N9 HI7 HF7
  obtain ⟨A, hA⟩ : ∃ A, w8.heap.size = A := ⟨_, rfl⟩
  rw [hA] at HM9
  have HA : Hid (w8.heap.size = A) := hA
  clear hA
  simp only [fo, F.v, F.cs] at HI9 HF9 HM9 ⊢
  go_wp2_with fail
  rw [HA.out]
  refine (copy_yes 1 (fo 3) rfl _ HI9.out).mono ?_
  rintro e w10 ⟨rfl, F10⟩
  obtain ⟨o11, M11, N11⟩ := Mine.new w10 o9 (fo 3)
  have F11 := F10.trans (N11 _)
  have HI11 : Hid (IsNet (w10.alloc (.cells (fo 3).cs.toArray 26)) o11 2 b [fo 1, fo 3]) := HI9.out.fr F11 id id
  have HF11 : Hid (Fr TN o0 o11 w (w10.alloc (.cells (fo 3).cs.toArray 26))) := HF9.out.trans (F11.mono (fun _ h => h.elim))
  have HM11 : Hid (Mine (w10.alloc (.cells (fo 3).cs.toArray 26)) o11 A (fo 2)) := HM9.out.fr F11 id
  have HN11 : Hid (Mine (w10.alloc (.cells (fo 3).cs.toArray 26)) o11 w10.heap.size (fo 3)) := M11
  clear F10 F11 M11 N11 HI9 HF9 HM9 HA
  obtain ⟨C, hC⟩ : ∃ C, w10.heap.size = C := ⟨_, rfl⟩
  rw [hC] at HN11
  have HC : Hid (w10.heap.size = C) := hC
  clear hC
  simp only [fo, F.v, F.cs] at HI11 HF11 HM11 HN11 ⊢
  go_wp2_with fail
  rw [HC.out]
  refine (drop_yes 0 (by simp) (by simp) _ HI11.out).mono ?_
  rintro e w12 ⟨rfl, I12, F12⟩
  rw [out2] at I12
  have HI12 : Hid (IsNet w12 o11 2 b [fo 3]) := I12
  have HF12 : Hid (Fr TN o0 o11 w w12) := HF11.out.trans (F12.mono (fun t h => TN.of (by decide) h))
  have HM12 : Hid (Mine w12 o11 A (fo 2)) := HM11.out.fr F12 (by decide)
  have HN12 : Hid (Mine w12 o11 C (fo 3)) := HN11.out.fr F12 (by decide)
  clear I12 F12 HI11 HF11 HM11 HN11 HC
  go_wp2_with fail
  refine (drop_no 5 (by simp) _ HI12.out).mono ?_
  rintro e w13 ⟨rfl, rfl⟩
  go_wp2_with fail
  have HS : Hid (∀ X, Below w12.heap.size w12 X → (X.cell? ⟨A, 0, none⟩ = some (.int .i64 0) ∧ X.cell? ⟨A, 1, none⟩ = some (.int .i64 0) ∧ X.cell? ⟨A, 2, none⟩ = some (.int .i64 0) ∧ X.cell? ⟨A, 3, none⟩ = some (.int .i64 2) ∧ X.cell? ⟨A, 4, none⟩ = some (.int .i64 0) ∧ X.cell? ⟨A, 5, none⟩ = some (.int .i64 0) ∧ X.cell? ⟨A, 6, none⟩ = some (.string ⟨#[]⟩) ∧ X.cell? ⟨A, 7, none⟩ = some (.int .i64 0) ∧ X.cell? ⟨A, 8, none⟩ = some (.string ⟨#[]⟩) ∧ X.cell? ⟨C, 0, none⟩ = some (.int .i64 0) ∧ X.cell? ⟨C, 1, none⟩ = some (.int .i64 0) ∧ X.cell? ⟨C, 2, none⟩ = some (.int .i64 0) ∧ X.cell? ⟨C, 3, none⟩ = some (.int .i64 3) ∧ X.cell? ⟨C, 4, none⟩ = some (.int .i64 0) ∧ X.cell? ⟨C, 5, none⟩ = some (.int .i64 0) ∧ X.cell? ⟨C, 6, none⟩ = some (.string ⟨#[]⟩) ∧ X.cell? ⟨C, 7, none⟩ = some (.int .i64 0) ∧ X.cell? ⟨C, 8, none⟩ = some (.string ⟨#[]⟩))) := fun X bX => by
    obtain ⟨x0, x1, x2, x3, x4, x5, x6, x7, x8⟩ := (HM12.out.nine.at_.below bX).cells
    obtain ⟨y0, y1, y2, y3, y4, y5, y6, y7, y8⟩ := (HN12.out.nine.at_.below bX).cells
    exact ⟨x0, x1, x2, x3, x4, x5, x6, x7, x8, y0, y1, y2, y3, y4, y5, y6, y7, y8⟩
  have BD : Hid (Below w12.heap.size w12 w12.drew) := below_drewN (Below.refl _ _) 1
  have S0 := HS.out _ BD.out
  have q2 := fun w => eql26 w (fo 2)
  have q3 := fun w => eql26 w (fo 3)
  simp only [fo, F.v, F.cs] at q2 q3
  clear HM12 HN12
  go_region_held3 (fun w' => w'.cell? ⟨A, 0, none⟩ = some (.int .i64 0) ∧ w'.cell? ⟨A, 1, none⟩ = some (.int .i64 0) ∧ w'.cell? ⟨A, 2, none⟩ = some (.int .i64 0) ∧ w'.cell? ⟨A, 3, none⟩ = some (.int .i64 2) ∧ w'.cell? ⟨A, 4, none⟩ = some (.int .i64 0) ∧ w'.cell? ⟨A, 5, none⟩ = some (.int .i64 0) ∧ w'.cell? ⟨A, 6, none⟩ = some (.string ⟨#[]⟩) ∧ w'.cell? ⟨A, 7, none⟩ = some (.int .i64 0) ∧ w'.cell? ⟨A, 8, none⟩ = some (.string ⟨#[]⟩) ∧ w'.cell? ⟨C, 0, none⟩ = some (.int .i64 0) ∧ w'.cell? ⟨C, 1, none⟩ = some (.int .i64 0) ∧ w'.cell? ⟨C, 2, none⟩ = some (.int .i64 0) ∧ w'.cell? ⟨C, 3, none⟩ = some (.int .i64 3) ∧ w'.cell? ⟨C, 4, none⟩ = some (.int .i64 0) ∧ w'.cell? ⟨C, 5, none⟩ = some (.int .i64 0) ∧ w'.cell? ⟨C, 6, none⟩ = some (.string ⟨#[]⟩) ∧ w'.cell? ⟨C, 7, none⟩ = some (.int .i64 0) ∧ w'.cell? ⟨C, 8, none⟩ = some (.string ⟨#[]⟩))
    (first | with_reducible exact S0 | with_reducible exact S14 | with_reducible exact S15 | with_reducible exact S16 | with_reducible exact S17 | with_reducible exact S18 | with_reducible exact S19)
    (first
      | (go_at_call 9; refine (of_up 2 _).mono ?_; rintro e w14 ⟨rfl, b14⟩; simp only [fo, F.v, F.cs]; have B14 : Hid (Below w12.heap.size w12 w14) := BD.out.trans (b14.mono BD.out.size); have S14 := HS.out _ B14.out; clear b14)
      | (go_at_call 9; refine (of_up 3 _).mono ?_; rintro e w15 ⟨rfl, b15⟩; simp only [fo, F.v, F.cs]; have B15 : Hid (Below w12.heap.size w12 w15) := B14.out.trans (b15.mono B14.out.size); have S15 := HS.out _ B15.out; clear b15)
      | (go_at_call 14; refine (list_any (8, 1) (by simp) _ (HI12.out.below B15.out)).mono ?_; rintro e w16 ⟨a16, c16, o16, rfl, O16, F16⟩; have HO16 : Hid (OwnK w16 o16 (8, 1) 9 (.slice a16 1 c16) 1 (fc [fo 3])) := O16; have b16 : Below w15.heap.size w15 w16 := F16.below (Nat.le_refl _) (fun _ _ h => h); have B16 : Hid (Below w12.heap.size w12 w16) := B15.out.trans (b16.mono B15.out.size); have S16 := HS.out _ B16.out; rw [show ([fo 3] : List F).length = 1 from rfl]; clear b16 O16 F16)
      | (go_at_call 9; refine (of_up 3 _).mono ?_; rintro e w17 ⟨rfl, b17⟩; simp only [fo, F.v, F.cs]; have B17 : Hid (Below w12.heap.size w12 w17) := B16.out.trans (b17.mono B16.out.size); have HO17 : Hid (OwnK w17 o16 (8, 1) 9 (.slice a16 1 c16) 1 (fc [fo 3])) := HO16.out.below b17; have S17 := HS.out _ B17.out; have S18 := HS.out _ (up_lit B17.out 3); clear b17)
      | (go_at_call 13; refine (same_lit 3 _ HO17.out).mono ?_; rintro e w19 ⟨rfl, b19⟩; have B19 : Hid (Below w12.heap.size w12 w19) := B17.out.trans (b19.mono B17.out.size); have S19 := HS.out _ B19.out; clear b19)
      | (go_at_call 15; refine (len_any _ (HI12.out.below B19.out)).mono ?_; rintro e w20 ⟨rfl, rfl⟩; rw [show (([fo 3] : List F).length : Int) = 1 from rfl]))
  go_wp2_with fail
  go_ret
  exact ⟨rfl, (HF12.out.trans (Fr.ofBelow _ _ B19.out)).below (Nat.le_refl _) (fun b _ h => h rfl)⟩
end Go.Proofs.Ytgbjohipijpimaa
