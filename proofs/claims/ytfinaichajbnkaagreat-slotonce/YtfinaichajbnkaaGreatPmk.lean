/-
  LISTS THAT ARE MADE: frames, truths.
-/
import Derived.Test.YtfinaichajbnkaaGreatPcu
namespace Go.Proofs.YtfinaichajbnkaaGreat
open Go.RowKit
open Wi (F)

theorem und56 : Tryz.prog.underlying 56 = some (.slice 4) := by kernel_rfl
theorem inf4 : (Tryz.prog.info? 4).map (fun i => (i.zero, i.size, i.bytes)) = some (some (.bool false), 1, 1) := by kernel_rfl
/-- Truths as cells. -/
def bcs (l : List Bool) : List Value := l.map .bool
theorem bcs_length (l : List Bool) : (bcs l).length = l.length := by simp [bcs]
theorem bcs_at {l : List Bool} {j : Nat} {b : Bool} (h : l[j]? = some b) : (bcs l)[j]? = some (.bool b) := by simp [bcs, h]
theorem bcs_set (l : List Bool) (j : Nat) (b : Bool) : (bcs l).set j (.bool b) = bcs (l.set j b) := by simp [bcs, List.map_set]
theorem make_bools (n : Nat) (hn : n ≤ 1000) : ∃ ob, ∀ w : World, (Instr.makeSlice 56 (.int .i64 (n : Int)) (.int .i64 (n : Int))).run Tryz.prog w = .ok (.slice (some ⟨w.heap.size, 0, none⟩) n n) (w.alloc ob) ∧
    ∀ (o : Nat → Nat × Nat) (t : Nat × Nat), OwnK (w.alloc ob) (lab o w.heap.size t) t 1 (.slice (some ⟨w.heap.size, 0, none⟩) n n) n (bcs (List.replicate n false)) := by
  obtain ⟨i0, hi, hz0, hz1, hz2⟩ := info_parts inf4
  have hr := fun w : World => run_make (P := Tryz.prog) w 56 4 i0 (.bool false) und56 hi hz0 .i64 .i64 (n : Int) (n : Int) (by omega) (by omega) (by rw [hz2]; omega) (by omega)
  simp only [Int.toNat_natCast] at hr
  refine ⟨_, fun w => ⟨hr w, fun o t => ?_⟩⟩
  have := own_new (w := w) (o := o) (t := t) (k := 1) (n := n) (cap := n) (e := 4) (bcs (List.replicate n false)) #[] (by rw [bcs_length, List.length_replicate, Nat.mul_one]) (fun u hu => by obtain ⟨k, _, rfl⟩ := List.mem_map.1 hu; rfl) (Nat.le_refl _) (by unfold maxLen; omega) (by simp)
  rw [Array.append_empty] at this
  have e : madeCells (Value.bool false).cells n = (bcs (List.replicate n false)).toArray := by
    apply Array.ext'
    rw [show (Value.bool false).cells = #[Value.bool false] from rfl, toList_madeCells_one]
    simp [bcs]
  rw [hz1, Nat.mul_one, e]
  exact this
theorem make_frames (n : Nat) (hn : n ≤ 1000) : ∃ ob, ∀ w : World, (Instr.makeSlice 44 (.int .i64 (n : Int)) (.int .i64 (n : Int))).run Tryz.prog w = .ok (.slice (some ⟨w.heap.size, 0, none⟩) n n) (w.alloc ob) ∧
    ∀ (o : Nat → Nat × Nat) (t : Nat × Nat), OwnK (w.alloc ob) (lab o w.heap.size t) t 9 (.slice (some ⟨w.heap.size, 0, none⟩) n n) n (fcz (List.replicate n Wi.Z)) := by
  obtain ⟨i0, hi, hz0, hz1, hz2⟩ := info_parts info27
  have hr := fun w : World => run_make (P := Tryz.prog) w 44 27 i0 Wi.Z.v und44 hi hz0 .i64 .i64 (n : Int) (n : Int) (by omega) (by omega) (by rw [hz2]; omega) (by omega)
  simp only [Int.toNat_natCast] at hr
  refine ⟨_, fun w => ⟨hr w, fun o t => ⟨by rw [fcz_length, List.length_replicate], fcz_one _, .inr ⟨_, n, rfl, lab_same _ _ _, by simp, Nat.le_refl _, by unfold maxLen; omega, fun j u hu => ?_, fun j hj => ⟨?_, World.frozen?_alloc_new _ _ _ _⟩⟩⟩⟩⟩
  · rw [World.cell?_alloc_new, hz1]
    have hj : j < n * 9 := by have := (List.getElem?_eq_some_iff.1 hu).1; rw [fcz_length, List.length_replicate] at this; exact this
    have h1 : (List.replicate n Wi.Z)[j / 9]? = some Wi.Z := by rw [List.getElem?_replicate, if_pos (by omega)]
    have : j % 9 < 9 := by omega
    have e : j = j / 9 * 9 + j % 9 := by omega
    rw [← hu]
    generalize hq : j % 9 = r at this e
    have h2 : (madeCells Wi.Z.v.cells (n * 9))[j]? = some (Wi.Z.v.cells[r]!) := by
      simp [madeCells, hj]
      rw [show Wi.Z.v.cells.size = 9 from cells27, hq]
    have h3 : (fcz (List.replicate n Wi.Z))[j]? = Wi.Z.cs[r]? := by
      have h := fcz_at _ h1 r this
      rwa [← e] at h
    rw [h2, h3]
    obtain rfl | rfl | rfl | rfl | rfl | rfl | rfl | rfl | rfl : r = 0 ∨ r = 1 ∨ r = 2 ∨ r = 3 ∨ r = 4 ∨ r = 5 ∨ r = 6 ∨ r = 7 ∨ r = 8 := by omega
    all_goals rfl
  · rw [World.cell?_alloc_new, hz1]
    simp [madeCells, hj]
theorem set_same {α : Type} : ∀ {l : List α} {i : Nat} {a : α}, l[i]? = some a → l.set i a = l
  | [], _, _, h => by cases h
  | x :: l, 0, a, h => by simp at h; rw [List.set_cons_zero, h]
  | x :: l, i + 1, a, h => by rw [List.set_cons_succ, set_same (by simpa using h)]
/-- A frame of a list stored anew, cell by cell. -/
theorem fcz_set (a0 a1 a2 a3 a4 a5 : Int) (a6 : ByteArray) (a7 : Int) (a8 : ByteArray) : ∀ (l : List F) (x : Nat), x < l.length →
    (((((((((fcz l).set (x * 9) (.int .i64 a0)).set (x * 9 + 1) (.int .i64 a1)).set (x * 9 + 2) (.int .i64 a2)).set (x * 9 + 3) (.int .i64 a3)).set (x * 9 + 4) (.int .i64 a4)).set (x * 9 + 5) (.int .i64 a5)).set (x * 9 + 6) (.string a6)).set (x * 9 + 7) (.int .i64 a7)).set (x * 9 + 8) (.string a8) = fcz (l.set x ⟨a0, a1, a2, a3, a4, a5, a6, a7, a8⟩)
  | [], x, h => by simp at h
  | ⟨b0, b1, b2, b3, b4, b5, b6, b7, b8⟩ :: l, 0, _ => rfl
  | ⟨b0, b1, b2, b3, b4, b5, b6, b7, b8⟩ :: l, x + 1, h => by
    have ih := fcz_set a0 a1 a2 a3 a4 a5 a6 a7 a8 l x (by simpa using h)
    rw [List.set_cons_succ, fcz_cons, fcz_cons, ← ih, show (x + 1) * 9 = x * 9 + 9 by omega, show x * 9 + 9 + 1 = x * 9 + 1 + 9 by omega, show x * 9 + 9 + 2 = x * 9 + 2 + 9 by omega, show x * 9 + 9 + 3 = x * 9 + 3 + 9 by omega, show x * 9 + 9 + 4 = x * 9 + 4 + 9 by omega, show x * 9 + 9 + 5 = x * 9 + 5 + 9 by omega, show x * 9 + 9 + 6 = x * 9 + 6 + 9 by omega, show x * 9 + 9 + 7 = x * 9 + 7 + 9 by omega, show x * 9 + 9 + 8 = x * 9 + 8 + 9 by omega]
    rfl
theorem OwnK.setF {w : World} {o : Nat → Nat × Nat} {t : Nat × Nat} {n g cap : Nat} {l : List F} (h : OwnK w o t 9 (.slice (some ⟨g, 0, none⟩) n cap) n (fcz l)) (x : Nat) (hx : x < n) (a0 a1 a2 a3 a4 a5 : Int) (a6 : ByteArray) (a7 : Int) (a8 : ByteArray) :
    OwnK (((((((((w.setCell ⟨g, x * 9, none⟩ (.int .i64 a0)).setCell ⟨g, x * 9 + 1, none⟩ (.int .i64 a1)).setCell ⟨g, x * 9 + 2, none⟩ (.int .i64 a2)).setCell ⟨g, x * 9 + 3, none⟩ (.int .i64 a3)).setCell ⟨g, x * 9 + 4, none⟩ (.int .i64 a4)).setCell ⟨g, x * 9 + 5, none⟩ (.int .i64 a5)).setCell ⟨g, x * 9 + 6, none⟩ (.string a6)).setCell ⟨g, x * 9 + 7, none⟩ (.int .i64 a7)).setCell ⟨g, x * 9 + 8, none⟩ (.string a8)) o t 9 (.slice (some ⟨g, 0, none⟩) n cap) n (fcz (l.set x ⟨a0, a1, a2, a3, a4, a5, a6, a7, a8⟩)) := by
  have hl : x < l.length := by have := h.1; rw [fcz_length] at this; omega
  rw [← fcz_set a0 a1 a2 a3 a4 a5 a6 a7 a8 l x hl]
  exact ((((((((h.set _ _ rfl (by omega)).set _ _ rfl (by omega)).set _ _ rfl (by omega)).set _ _ rfl (by omega)).set _ _ rfl (by omega)).set _ _ rfl (by omega)).set _ _ rfl (by omega)).set _ _ rfl (by omega)).set _ _ rfl (by omega)
theorem fr_set9 {o : Nat → Nat × Nat} {t : Nat × Nat} {g : Nat} (hg : o g = t) (w : World) (x0 x1 x2 x3 x4 x5 x6 x7 x8 : Nat) (v0 v1 v2 v3 v4 v5 v6 v7 v8 : Value) :
    Fr (· = t) o o w (((((((((w.setCell ⟨g, x0, none⟩ v0).setCell ⟨g, x1, none⟩ v1).setCell ⟨g, x2, none⟩ v2).setCell ⟨g, x3, none⟩ v3).setCell ⟨g, x4, none⟩ v4).setCell ⟨g, x5, none⟩ v5).setCell ⟨g, x6, none⟩ v6).setCell ⟨g, x7, none⟩ v7).setCell ⟨g, x8, none⟩ v8) := by
  have f : ∀ (w : World) (j : Nat) (v : Value), Fr (· = t) o o w (w.setCell ⟨g, j, none⟩ v) := fun w j v => Fr.set (T := (· = t)) (a := ⟨g, j, none⟩) hg v
  exact (((((((((f w _ _).trans (f _ _ _)).trans (f _ _ _)).trans (f _ _ _)).trans (f _ _ _)).trans (f _ _ _)).trans (f _ _ _)).trans (f _ _ _)).trans (f _ _ _))
end Go.Proofs.YtfinaichajbnkaaGreat
