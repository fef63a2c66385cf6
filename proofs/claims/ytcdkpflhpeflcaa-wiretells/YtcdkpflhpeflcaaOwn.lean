/-
  BYTES OF THE CALL'S OWN, as a list, and what append does to them: with a row, a byte, a string behind them; make with room.
-/
import Derived.Test.YtcdkpflhpeflcaaBytes
namespace Go.Proofs.Ytcdkpflhpeflcaa
open Go.RowKit

/-- A list's cells, its places. -/
def cl (l : List Nat) : List Value := l.map fun x => Value.int .u8 ((x : Nat) : Int)
def lf (l : List Nat) (i : Nat) : Nat := l.getD i 0
theorem cl_length (l : List Nat) : (cl l).length = l.length := by simp [cl]
theorem cl_at {l : List Nat} {j : Nat} (h : j < l.length) : (cl l)[j]? = some (.int .u8 ((lf l j : Nat) : Int)) := by
  simp [cl, lf, List.getD_eq_getElem?_getD, h]
theorem cl_one (l : List Nat) : ∀ v ∈ cl l, v.oneCell' = true := by
  intro v hv; simp only [cl, List.mem_map] at hv; obtain ⟨i, _, rfl⟩ := hv; rfl
theorem cl_append (l m : List Nat) : cl (l ++ m) = cl l ++ cl m := by simp [cl]
theorem lf_left {l m : List Nat} {j : Nat} (h : j < l.length) : lf (l ++ m) j = lf l j := by
  simp [lf, List.getD_eq_getElem?_getD, List.getElem?_append_left h]
theorem lf_right {l m : List Nat} {j : Nat} : lf (l ++ m) (l.length + j) = lf m j := by
  simp [lf, List.getD_eq_getElem?_getD, List.getElem?_append_right]
theorem lf_out {l : List Nat} {j : Nat} (h : l.length ≤ j) : lf l j = 0 := by
  simp [lf, List.getD_eq_getElem?_getD, List.getElem?_eq_none h]
theorem lf_lt {l : List Nat} (h : ∀ x ∈ l, x < 256) (j : Nat) : lf l j < 256 := by
  by_cases hj : j < l.length
  · have : lf l j = l[j] := by simp [lf, List.getD_eq_getElem?_getD, hj]
    rw [this]; exact h _ (List.getElem_mem hj)
  · rw [lf_out (by omega)]; decide
theorem list_ext {l m : List Nat} (h1 : l.length = m.length) (h : ∀ i, i < l.length → lf l i = lf m i) : l = m := by
  apply List.ext_getElem h1
  intro i h2 h3
  have := h i h2
  simpa [lf, List.getD_eq_getElem?_getD, h2, h3] using this
/-- The first n of f's numbers. -/
def tab (f : Nat → Nat) (n : Nat) : List Nat := (List.range n).map f
theorem tab_length (f : Nat → Nat) (n : Nat) : (tab f n).length = n := by simp [tab]
theorem lf_tab {f : Nat → Nat} {n i : Nat} (h : i < n) : lf (tab f n) i = f i := by simp [lf, tab, List.getD_eq_getElem?_getD, h]
theorem tab_lf (l : List Nat) : tab (lf l) l.length = l := list_ext (tab_length _ _) (fun i hi => lf_tab (by rw [tab_length] at hi; exact hi))
theorem tab_congr {f g : Nat → Nat} {n : Nat} (h : ∀ i, i < n → f i = g i) : tab f n = tab g n := List.map_congr_left (fun i hi => h i (List.mem_range.1 hi))
/-- A string's bytes. -/
def sb (s : ByteArray) : List Nat := tab (bt s) s.size
theorem sb_length (s : ByteArray) : (sb s).length = s.size := tab_length _ _
theorem cl_sb (s : ByteArray) : byteCells s = cl (sb s) := by
  apply List.ext_getElem?
  intro i
  by_cases h : i < s.size
  · rw [cl_at (by rw [sb_length]; exact h)]
    unfold byteCells sb
    rw [lf_tab h]
    have h1 : i < s.data.toList.length := by rw [size_len]; exact h
    rw [List.getElem?_map, List.getElem?_eq_getElem h1]
    unfold bt
    rw [List.getD_eq_getElem?_getD, List.getElem?_eq_getElem h1]
    rfl
  · rw [List.getElem?_eq_none (by rw [byteCells_length]; omega), List.getElem?_eq_none (by rw [cl_length, sb_length]; omega)]

/-- Bytes of the call's own, from block B on. -/
def OwnC (w : World) (B : Nat) (v : Value) (l : List Nat) : Prop :=
  (v = .slice none 0 0 ∧ l = []) ∨ ∃ g cap, v = .slice (some ⟨g, 0, none⟩) l.length cap ∧ B ≤ g ∧ g < w.heap.size ∧ l.length ≤ cap ∧ cap ≤ maxLen ∧ (∀ j, j < l.length → w.cell? ⟨g, j, none⟩ = some (.int .u8 ((lf l j : Nat) : Int))) ∧
    ∀ j, j < cap → (w.cell? ⟨g, j, none⟩).isSome = true ∧ w.frozen? ⟨g, j, none⟩ = false
theorem OwnC.row {w : World} {B : Nat} {v : Value} {l : List Nat} (h : OwnC w B v l) : ∃ a c, v = .slice a l.length c ∧ l.length ≤ c ∧ RowF w a (lf l) l.length := by
  rcases h with ⟨rfl, rfl⟩ | ⟨g, cap, rfl, _, _, h1, _, h2, _⟩
  · exact ⟨none, 0, rfl, Nat.le_refl _, Or.inl rfl⟩
  · exact ⟨_, cap, rfl, h1, Or.inr ⟨g, 0, rfl, fun i hi => by rw [Nat.zero_add]; exact h2 i hi⟩⟩
theorem OwnC.mono {w : World} {B B' : Nat} {v : Value} {l : List Nat} (h : OwnC w B v l) (hB : B' ≤ B) : OwnC w B' v l := by
  rcases h with h | ⟨g, cap, h1, h2, h3⟩
  · exact .inl h
  · exact .inr ⟨g, cap, h1, Nat.le_trans hB h2, h3⟩
theorem cell_up {w w' : World} {b o : Nat} {v : Value} (hb : Below w.heap.size w w') (h : w.cell? ⟨b, o, none⟩ = some v) : w'.cell? ⟨b, o, none⟩ = some v :=
  (hb.cell (p := ⟨b, o, none⟩) (World.block_lt_of_cell? _ _ h)).trans h
theorem OwnC.up {w w' : World} {B : Nat} {v : Value} {l : List Nat} (h : OwnC w B v l) (hb : Below w.heap.size w w') : OwnC w' B v l := by
  rcases h with h | ⟨g, cap, h1, h2, h3, h4, h5, h6, h7⟩
  · exact .inl h
  · exact .inr ⟨g, cap, h1, h2, Nat.lt_of_lt_of_le h3 hb.size, h4, h5, fun j hj => cell_up hb (h6 j hj), fun j hj => by
      have e := hb.block g h3
      exact ⟨by rw [World.cell?_of_block (a := ⟨g, j, none⟩) e]; exact (h7 j hj).1, (World.frozen?_of_block (a := ⟨g, j, none⟩) e).trans (h7 j hj).2⟩⟩
theorem below_setCells {B : Nat} {w0 w : World} (h : Below B w0 w) {g : Nat} (hg : B ≤ g) (o : Nat) (vs : List Value) (hgw : B ≤ w.heap.size) : Below B w0 (w.setCells g o vs) := by
  induction vs generalizing o w with
  | nil => exact h
  | cons v vs ih => exact ih (h.setCell (p := ⟨g, o, none⟩) hg v) (o + 1) (by simpa [World.setCell] using hgw)
theorem size_setCells (w : World) (g o : Nat) (vs : List Value) : (w.setCells g o vs).heap.size = w.heap.size := by
  induction vs generalizing o w with
  | nil => rfl
  | cons v vs ih => show ((w.setCell ⟨g, o, none⟩ v).setCells g (o + 1) vs).heap.size = _; rw [ih]; simp [World.setCell]

theorem some_setCell (w : World) (a x : Addr) (v : Value) (h : (w.cell? x).isSome = true) : ((w.setCell a v).cell? x).isSome = true := by
  obtain ⟨u, hu⟩ := Option.isSome_iff_exists.1 h
  by_cases e : a = x
  · subst e; rw [World.cell?_setCell_same _ _ _ hu]; rfl
  · rw [World.cell?_setCell_other _ _ _ _ e]; exact h
theorem some_setCells (b : Nat) : ∀ (vs : List Value) (o : Nat) (w : World) (x : Addr), (w.cell? x).isSome = true → ((w.setCells b o vs).cell? x).isSome = true
  | [], _, _, _, h => h
  | v :: vs, o, w, x, h => some_setCells b vs (o + 1) (w.setCell ⟨b, o, none⟩ v) x (some_setCell w _ x v h)
/-- append. -/
theorem app_src {w : World} {B : Nat} {v x : Value} {l m : List Nat} (tx : TypeId) (h : OwnC w B v l) (hB : B ≤ w.heap.size) (hs : Src Try.prog 1 tx x m.length (cl m) w) (hb : l.length + m.length ≤ 140737488355328) :
    ∃ v' w', (Builtin.append_ #[22, tx] 22 #[v, x]).run Try.prog w = .ok v' w' ∧ OwnC w' B v' (l ++ m) ∧ Below B w w' := by
  obtain ⟨i0, hi, hz0, hz1, hz2⟩ := info_parts info5
  have hs' : Src Try.prog i0.size tx x m.length (cl m) w := by rw [hz1]; exact hs
  by_cases m0 : m.length = 0
  · have : m = [] := List.eq_nil_of_length_eq_zero m0
    subst this
    rw [List.append_nil]
    obtain ⟨a, c, rfl, hc, _⟩ := h.row
    exact ⟨_, w, run_append_nothing w 22 tx 22 5 i0 under32 hi a l.length c hc x hs', h, Below.refl _ _⟩
  have hmax : l.length + m.length ≤ maxLen := by unfold maxLen; omega
  have grow : ∀ (a : Option Addr) (c : Nat), v = .slice a l.length c → c < l.length + m.length → (Builtin.firstCells i0.size l.length (.slice a l.length c)).run Try.prog w.drew = .ok (cl l).toArray w.drew →
      ∃ v' w', (Builtin.append_ #[22, tx] 22 #[v, x]).run Try.prog w = .ok v' w' ∧ OwnC w' B v' (l ++ m) ∧ Below B w w' := by
    rintro a c rfl hc hold
    have hr := run_append_grow_src (P := Try.prog) w 22 tx 22 5 i0 (.int .u8 0) under32 hi hz0 a l.length c (cl l) hold x m.length (cl m) hs' hc (by omega) (by rw [hz2]; exact growslice_fits hc (by omega))
    have hge := grownCap_ge w (l.length + m.length) c 5
    have hcm := grownCap_le_maxLen w (l.length + m.length) c 5 hmax
    obtain ⟨cap, hcap⟩ : ∃ cap, grownCap w (l.length + m.length) c 5 = cap := ⟨_, rfl⟩
    rw [hcap] at hr hge hcm
    have hsz : ((cl l ++ cl m).toArray ++ Builtin.zeroCells (Value.int .u8 0).cells (cap - (l.length + m.length))).size = cap := by
      rw [Array.size_append, List.size_toArray, size_zeroCells, List.length_append, cl_length, cl_length]
      rw [show (Value.int .u8 0).cells.size = 1 from rfl, Nat.mul_one]
      omega
    refine ⟨_, _, hr, .inr ⟨w.heap.size, cap, by rw [List.length_append], hB, by simp, by rw [List.length_append]; exact hge, hcm, fun j hj => ?_, fun j hj => ⟨?_, ?_⟩⟩, ?_⟩
    · refine (World.cell?_alloc_new w.drew _ _ j).trans ?_
      rw [List.length_append] at hj
      rw [Array.getElem?_append_left (by simp [cl_length]; exact hj), List.getElem?_toArray, ← cl_append]
      exact cl_at (by rw [List.length_append]; exact hj)
    · have e : (w.drew.alloc (.cells ((cl l ++ cl m).toArray ++ Builtin.zeroCells (Value.int .u8 0).cells (cap - (l.length + m.length))) 5)).cell? ⟨w.heap.size, j, none⟩ = _ := World.cell?_alloc_new w.drew _ _ j
      rw [e, Array.getElem?_eq_getElem (by rw [hsz]; exact hj)]; rfl
    · exact World.frozen?_alloc_new w.drew _ _ j
    · exact (Below.refl B w).drew.alloc hB _
  rcases h with ⟨rfl, rfl⟩ | ⟨g, cap, rfl, h2, h3, h4, h5, h6, h7⟩
  · exact grow none 0 rfl (by simp; omega) (by simpa [cl] using run_firstCells_none (P := Try.prog) w.drew i0.size 0 0 0)
  · by_cases hroom : l.length + m.length ≤ cap
    · have hr := run_append_room_src (P := Try.prog) w 22 tx 22 5 i0 under32 hi g 0 l.length cap x m.length (cl m) hs' hroom (fun j hj => by
          rw [cl_length] at hj
          rw [hz1, Nat.zero_add, Nat.mul_one]
          exact (h7 (l.length + j) (by omega)).1) (fun j hj => by
          rw [cl_length] at hj
          rw [hz1, Nat.zero_add, Nat.mul_one]
          exact (h7 (l.length + j) (by omega)).2)
      rw [hz1, Nat.zero_add, Nat.mul_one] at hr
      refine ⟨_, _, hr, .inr ⟨g, cap, by rw [List.length_append], h2, by rw [size_setCells]; exact h3, by rw [List.length_append]; exact hroom, h5, fun j hj => ?_, fun j hj => ⟨?_, ?_⟩⟩, below_setCells (Below.refl B w) h2 _ _ hB⟩
      · rw [List.length_append] at hj
        by_cases hj1 : j < l.length
        · rw [World.cell?_setCells_out g (cl m) l.length w ⟨g, j, none⟩ (fun _ _ => .inl hj1), lf_left hj1]; exact h6 j hj1
        · have e := World.cell?_setCells_in g (cl m) l.length w (fun q hq => by rw [cl_length] at hq; exact (h7 (l.length + q) (by omega)).1) (j - l.length) (by rw [cl_length]; omega)
          rw [show l.length + (j - l.length) = j by omega] at e
          rw [e]
          have e2 := cl_at (l := m) (j := j - l.length) (by omega)
          rw [List.getElem?_eq_getElem (by rw [cl_length]; omega)] at e2
          rw [e2, ← lf_right (l := l), show l.length + (j - l.length) = j by omega]
      · exact some_setCells g _ _ _ _ (h7 j hj).1
      · rw [World.frozen?_setCells]; exact (h7 j hj).2
    · refine grow _ cap rfl (by omega) (run_firstCells_some (P := Try.prog) w.drew i0.size l.length ⟨g, 0, none⟩ l.length cap (cl l) (by rw [cl_length, hz1, Nat.mul_one]) (fun j u hu => ?_))
      have hj : j < l.length := by
        have := (List.getElem?_eq_some_iff.1 hu).1
        rwa [cl_length] at this
      rw [cl_at hj] at hu
      rw [← hu]
      have e : (⟨g, 0, none⟩ : Addr).add j = ⟨g, j, none⟩ := by unfold Addr.add; split <;> simp_all
      rw [e]; exact h6 j hj
end Go.Proofs.Ytcdkpflhpeflcaa
