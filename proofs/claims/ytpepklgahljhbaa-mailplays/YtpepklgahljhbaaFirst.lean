/-
  FIRST: the first frame of the first box that has one.
-/
import Derived.Test.YtpepklgahljhbaaDrain
import Derived.Deep.RegionLaw
import Derived.Deep.RegionHeld3
import Derived.Deep.RegionWith
namespace Go.Proofs.Ytpepklgahljhbaa
open Go.Conc Go.RowKit

/-- Nine cells stored in new memory. -/
theorem Fr.nine {T : Nat × Nat → Prop} {o o' : Nat → Nat × Nat} {w w1 : World} (h : Fr T o o' w w1) {B : Nat} (hB : w.heap.size ≤ B) (u0 u1 u2 u3 u4 u5 u6 u7 u8 : Value) :
    Fr T o o' w (((((((((w1.setCell ⟨B, 0, none⟩ u0).setCell ⟨B, 1, none⟩ u1).setCell ⟨B, 2, none⟩ u2).setCell ⟨B, 3, none⟩ u3).setCell ⟨B, 4, none⟩ u4).setCell ⟨B, 5, none⟩ u5).setCell ⟨B, 6, none⟩ u6).setCell ⟨B, 7, none⟩ u7).setCell ⟨B, 8, none⟩ u8) :=
  ((((((((h.setNew hB u0).setNew hB u1).setNew hB u2).setNew hB u3).setNew hB u4).setNew hB u5).setNew hB u6).setNew hB u7).setNew hB u8
/-- Nine cells in a block of their own. -/
def Nine (w : World) (B : Nat) : Prop := w.heap[B]? = some (.cells #[.int .i64 0, .int .i64 0, .int .i64 0, .int .i64 0, .int .i64 0, .int .i64 0, .string ⟨#[]⟩, .int .i64 0, .string ⟨#[]⟩] 26)
theorem Nine.fr {T : Nat × Nat → Prop} {w w' : World} {o o' : Nat → Nat × Nat} {B : Nat} (h : Nine w B) (f : Fr T o o' w w') (ht : ¬ T (o B)) : Nine w' B := (f.block B (lt_of_get h) ht).trans h
theorem Nine.cell {w : World} {B : Nat} (h : Nine w B) (j : Nat) : w.cell? ⟨B, j, none⟩ = #[Value.int .i64 0, .int .i64 0, .int .i64 0, .int .i64 0, .int .i64 0, .int .i64 0, .string ⟨#[]⟩, .int .i64 0, .string ⟨#[]⟩][j]? := by
  unfold World.cell?; rw [h]; simp
theorem Nine.frozen {w : World} {B : Nat} (h : Nine w B) (j : Nat) : w.frozen? ⟨B, j, none⟩ = false := by
  unfold World.frozen?; rw [h]; simp
set_option maxRecDepth 100000 in
set_option maxHeartbeats 4000000 in
theorem first_any {o : Nat → Nat × Nat} {t : Nat × Nat} {V : Value} (ps : List BP) (ls : List (List Int)) (w : World) (hB : Bxs w o ps ls) (hV : CellR w o t V (ps.map pv)) (hn : ps.length ≤ 1000) :
    Calls Try.prog 12 #[V] w fun e w' => (∃ o', Fr (TC ps) o o' w w') ∧ ((∃ (i : Nat) (x : Int) (xs : List Int), (∀ j, j < i → ls[j]? = some []) ∧ ls[i]? = some (x :: xs) ∧ e = .returned (.tuple #[.int .i64 (i : Int), (fo x).v, .bool true])) ∨
      ((∀ j, j < ps.length → ls[j]? = some []) ∧ e = .returned (.tuple #[.int .i64 (-1), Z.v, .bool false]))) := by
  obtain ⟨a, cp, rfl, _⟩ := hV.form
  rw [List.length_map] at hV ⊢
  obtain ⟨n, hnn⟩ : ∃ n, n = ps.length := ⟨_, rfl⟩
  rw [← hnn] at hV hn ⊢
  have HB : Hid (Bxs w o ps ls) := hB
  have HV : Hid (CellR w o t (.slice a n cp) (ps.map pv)) := hV
  have HN : Hid (n = ps.length) := hnn
  clear hB hV hnn
  go_enter Try.func12, Try.ntmps12
  go_wp2_with fail
  obtain ⟨o1, ho1⟩ : ∃ o1, o1 = lab o w.heap.size (3, 0) := ⟨_, rfl⟩
  have HO1 : Hid (o1 w.heap.size = (3, 0)) := by rw [ho1]; exact lab_same _ _ _
  have HF0 : Hid (Fr (fun _ => False) o o1 w (w.alloc (.cells #[.int .i64 0, .int .i64 0, .int .i64 0, .int .i64 0, .int .i64 0, .int .i64 0, .string ⟨#[]⟩, .int .i64 0, .string ⟨#[]⟩] 26))) := by
    rw [ho1]; exact Fr.new _ _ _ _ _ (fun x => absurd x (by decide))
  have HN0 : Hid (Nine (w.alloc (.cells #[.int .i64 0, .int .i64 0, .int .i64 0, .int .i64 0, .int .i64 0, .int .i64 0, .string ⟨#[]⟩, .int .i64 0, .string ⟨#[]⟩] 26)) w.heap.size) := heap_alloc_new w _
  obtain ⟨B, hBB⟩ : ∃ B, B = w.heap.size := ⟨_, rfl⟩
  rw [← hBB] at HO1 HN0 ⊢
  have HW : Hid (w.heap.size ≤ B) := by rw [hBB]; exact Nat.le_refl _
  clear ho1 hBB
  go_loopw [11] (fun i wr => ∃ j : Nat, i = .int .i64 (j : Int) ∧ j ≤ n ∧ Hid (∀ q, q < j → ls[q]? = some []) ∧ Hid (Nine wr B) ∧ Hid (Fr (fun _ => False) o o1 w wr)) (fun i _ => n - (intOf i).toNat)
  case atStart => exact ⟨0, rfl, by omega, (fun q hq => absurd hq (by omega)), HN0, HF0⟩
  case round =>
    clear HN0 HF0
    obtain ⟨j, rfl, hj, HA, HC, HF⟩ := hrel
    have HBr : Hid (Bxs wr o1 ps ls) := HB.out.fr HF.out (fun _ _ _ => id) id
    by_cases hlt : j < n
    · obtain ⟨pt, hpt⟩ : ∃ pt, ps[j]? = some pt := ⟨_, List.getElem?_eq_getElem (by rw [← HN.out]; exact hlt)⟩
      obtain ⟨g, off, e1, d1⟩ := (HV.out.fr HF.out id).read (show (ps.map pv)[j]? = some (pv pt) by simp [hpt])
      subst e1
      have hi1 : (j : Int) < (n : Int) := by omega
      obtain ⟨l, hl⟩ : ∃ l, ls[j]? = some l := ⟨_, List.getElem?_eq_getElem (by rw [HBr.out.len, ← HN.out]; exact hlt)⟩
      have hb1 := HBr.out.at_ j pt l hpt hl
      cases l with
      | nil =>
        have HB1 : Hid (Bx1 wr o1 pt []) := hb1
        have HL : Hid (ls[j]? = some []) := hl
        clear hpt hl hb1
        go_wp2_with fail
        refine (takeOf_empty _ HB1.out).mono ?_
        rintro e w2 ⟨rfl, F2⟩
        have HF2 : Hid (∀ ob, Fr (fun _ => False) o1 o1 wr (w2.alloc ob)) := fun ob => F2.trans (Fr.alloc _ _ _ _)
        clear F2 d1 HB1
        simp only [Z, F.v, F.cs]
        go_wp2_with fail
        refine ⟨⟨j + 1, by go_num, by omega, fun q hq => ?_, HC.out.fr (HF2.out _) id, HF.out.trans (HF2.out _)⟩, by simp [intOf]; omega⟩
        by_cases e : q = j
        · subst e; exact HL.out
        · exact HA.out q (by omega)
      | cons x xs =>
        cases pt with
        | none => cases hb1
        | some bc =>
          obtain ⟨b, c⟩ := bc
          obtain ⟨room, hbx⟩ := hb1
          have HB1 : Hid (IsBox wr o1 b c room (fo x :: xs.map fo)) := hbx
          have HL : Hid (ls[j]? = some (x :: xs)) := hl
          have HPT : Hid (ps[j]? = some (some (b, c))) := hpt
          clear hpt hl hbx
          go_wp2_with fail
          refine (takeOf_yes (fo x) _ HB1.out).mono ?_
          rintro e w2 ⟨rfl, I2, F2⟩
          have F3 : Fr (· = (1, c)) o1 o1 wr (w2.alloc (.cells (fo x).cs.toArray 26)) := F2.trans (Fr.alloc _ _ _ _)
          have HF3 : Hid (Fr (TC ps) o o1 w (w2.alloc (.cells (fo x).cs.toArray 26))) := (HF.out.mono (fun _ h => h.elim)).trans (F3.mono (fun t e => ⟨b, c, List.mem_of_getElem? HPT.out, e⟩))
          have N3 := HC.out.fr F3 (by rw [HO1.out]; intro e; cases e)
          simp only [fo, F.cs] at N3 HF3
          have c0 := N3.cell 0
          have c1 := N3.cell 1
          have c2 := N3.cell 2
          have c3 := N3.cell 3
          have c4 := N3.cell 4
          have c5 := N3.cell 5
          have c6 := N3.cell 6
          have c7 := N3.cell 7
          have c8 := N3.cell 8
          have z := N3.frozen
          simp only [List.getElem?_toArray, List.getElem?_cons_zero, List.getElem?_cons_succ] at c0 c1 c2 c3 c4 c5 c6 c7 c8
          clear N3 F3 F2 I2 HC HF HB1 d1
          simp only [fo, F.v, F.cs]
          go_wp2_with fail
          go_region_law (fail)
          go_wp2_with fail
          refine bodyPost_ret (v := .tuple #[.int .i64 (j : Int), .agg #[.int .i64 0, .int .i64 0, .int .i64 0, .int .i64 x, .int .i64 0, .int .i64 0, .string ⟨#[]⟩, .int .i64 0, .string ⟨#[]⟩], .bool true]) (by simp [results, Try.results12]; go_simp) rfl ?_
          exact ⟨⟨o1, (HF3.out.nine HW.out _ _ _ _ _ _ _ _ _).trans (Fr.drew1 _ _ _)⟩, .inl ⟨j, x, xs, HA.out, HL.out, rfl⟩⟩
    · have hjn : j = n := by omega
      subst hjn
      have c0 := HC.out.cell 0
      have c1 := HC.out.cell 1
      have c2 := HC.out.cell 2
      have c3 := HC.out.cell 3
      have c4 := HC.out.cell 4
      have c5 := HC.out.cell 5
      have c6 := HC.out.cell 6
      have c7 := HC.out.cell 7
      have c8 := HC.out.cell 8
      have z := HC.out.frozen
      simp only [List.getElem?_toArray, List.getElem?_cons_zero, List.getElem?_cons_succ] at c0 c1 c2 c3 c4 c5 c6 c7 c8
      have HF4 : Hid (Fr (TC ps) o o1 w wr) := HF.out.mono (fun _ h => h.elim)
      clear HC HF
      go_wp2_with fail
      refine bodyPost_ret (v := .tuple #[.int .i64 (-1), .agg #[.int .i64 0, .int .i64 0, .int .i64 0, .int .i64 0, .int .i64 0, .int .i64 0, .string ⟨#[]⟩, .int .i64 0, .string ⟨#[]⟩], .bool false]) (by simp [results, Try.results12]; go_simp) rfl ?_
      exact ⟨⟨o1, HF4.out.nine HW.out _ _ _ _ _ _ _ _ _⟩, .inr ⟨HA.out, rfl⟩⟩
end Go.Proofs.Ytpepklgahljhbaa
