/-
  ROWS THAT CAME IN, cut; a list of rows of the call's own.
-/
import Derived.Test.YtpepklgahljhbaaFair
namespace Go.Proofs.Ytpepklgahljhbaa
open Go.Conc Go.RowKit

theorem add_lit' (g off k : Nat) : (⟨g, off, none⟩ : Addr).add k = ⟨g, off + k, none⟩ := by unfold Addr.add; split <;> simp_all
theorem slice_hiG (T E : TypeId) (k : Nat) (el : Try.prog.underlying T = some (.slice (Try.prog.elem T))) (ee : Try.prog.elem T = E) (sE : ∀ w : World, (sizeOf E).run Try.prog w = .ok k w) (g off len cap h : Nat) (hh : h ≤ cap) (w : World) :
    (Instr.sliceAt T (.slice (some ⟨g, off, none⟩) len cap) none (some (.int .i64 (h : Int))) none).run Try.prog w = .ok (.slice (some ⟨g, off, none⟩) h cap) w := by
  rw [run_sliceAt_slice _ _ _ _ _ _ el, run_slice_h _ _ _ _ _ el _ _ (by omega) (by omega), ee, sE]
  simp [sliced, add_lit']
/-- Where a list cut by one begins. -/
def cut1 (g off cap k : Nat) : Addr := if cap = 1 then ⟨g, off, none⟩ else ⟨g, off + k, none⟩
theorem slice_1G (T E : TypeId) (k : Nat) (el : Try.prog.underlying T = some (.slice (Try.prog.elem T))) (ee : Try.prog.elem T = E) (sE : ∀ w : World, (sizeOf E).run Try.prog w = .ok k w) (g off len cap : Nat) (hl : 1 ≤ len) (w : World) :
    (Instr.sliceAt T (.slice (some ⟨g, off, none⟩) len cap) (some (.int .i64 1)) none none).run Try.prog w = .ok (.slice (some (cut1 g off cap k)) (len - 1) (cap - 1)) w := by
  have := run_slice_l (P := Try.prog) w T (some ⟨g, off, none⟩) len cap el .i64 (1 : Int) (by omega) (by omega)
  rw [run_sliceAt_slice _ _ _ _ _ _ el, this, ee, sE]
  unfold cut1
  by_cases e : cap = 1
  · simp [sliced, e]
  · simp [sliced, e, add_lit']
theorem elem36 : Try.prog.underlying 36 = some (.slice (Try.prog.elem 36)) := by kernel_rfl
theorem elem36' : Try.prog.elem 36 = 3 := by kernel_rfl
theorem elem46 : Try.prog.underlying 46 = some (.slice (Try.prog.elem 46)) := by kernel_rfl
theorem elem46' : Try.prog.elem 46 = 36 := by kernel_rfl
theorem size3' (w : World) : (sizeOf 3).run Try.prog w = .ok 1 w := by kernel_rfl
theorem size36' (w : World) : (sizeOf 36).run Try.prog w = .ok 1 w := by kernel_rfl
theorem under46 : Try.prog.underlying 46 = some (.slice 36) := by kernel_rfl
theorem info36 : (Try.prog.info? 36).map (fun i => (i.zero, i.size, i.bytes)) = some (some (.slice none 0 0), 1, 24) := by kernel_rfl
theorem IntR.there {w : World} {o : Nat → Nat × Nat} {t : Nat × Nat} {a : Option Addr} {n c : Nat} {l : List Int} (h : IntR w o t (.slice a n c) l) (hl : 0 < l.length) : n = l.length ∧ n ≤ c ∧ ∃ g off, a = some ⟨g, off, none⟩ ∧ o g = t ∧ g < w.heap.size ∧ ∀ j u, l[j]? = some u → w.cell? ⟨g, off + j, none⟩ = some (.int .i64 u) := by
  rcases h with ⟨rfl, _⟩ | ⟨g, off, cap, e, h1, h2, h3, h4⟩
  · simp at hl
  · injection e with e1 e2 e3
    exact ⟨e2, by omega, g, off, e1, h2, h3, h4⟩
/-- The first eight. -/
theorem IntR.head8 {w : World} {o : Nat → Nat × Nat} {t : Nat × Nat} {a : Option Addr} {n c : Nat} {l : List Int} (h : IntR w o t (.slice a n c) l) (hn : 8 < l.length) :
    ∃ g off, a = some ⟨g, off, none⟩ ∧ (∀ w' : World, (Instr.sliceAt 36 (.slice (some ⟨g, off, none⟩) n c) none (some (.int .i64 8)) none).run Try.prog w' = .ok (.slice (some ⟨g, off, none⟩) 8 c) w') ∧ IntR w o t (.slice (some ⟨g, off, none⟩) 8 c) (l.take 8) := by
  obtain ⟨hn', hc, g, off, rfl, h2, h3, h4⟩ := h.there (by omega)
  refine ⟨g, off, rfl, fun w' => slice_hiG 36 3 1 elem36 elem36' size3' g off n c 8 (by omega) w', .inr ⟨g, off, c, by rw [List.length_take, Nat.min_eq_left (by omega)], by rw [List.length_take]; omega, h2, h3, fun j u hu => ?_⟩⟩
  rw [List.getElem?_take] at hu
  split at hu
  · exact h4 j u hu
  · cases hu
/-- The first gone. -/
theorem IntR.tail {w : World} {o : Nat → Nat × Nat} {t : Nat × Nat} {a : Option Addr} {n c : Nat} {x : Int} {xs : List Int} (h : IntR w o t (.slice a n c) (x :: xs)) :
    ∃ U, (∀ w' : World, (Instr.sliceAt 36 (.slice a n c) (some (.int .i64 1)) none none).run Try.prog w' = .ok U w') ∧ IntR w o t U xs := by
  obtain ⟨hn', hc, g, off, rfl, h2, h3, h4⟩ := h.there (by simp)
  simp only [List.length_cons] at hn'
  refine ⟨_, fun w' => slice_1G 36 3 1 elem36 elem36' size3' g off n c (by omega) w', ?_⟩
  by_cases e : c = 1
  · have : xs = [] := List.eq_nil_of_length_eq_zero (by omega)
    subst this
    exact .inl ⟨rfl, _, _, by rw [show n - 1 = 0 by omega]⟩
  · refine .inr ⟨g, off + 1, c - 1, by unfold cut1; rw [if_neg e, hn']; rfl, by omega, h2, h3, fun j u hu => ?_⟩
    have := h4 (j + 1) u (by rw [List.getElem?_cons_succ]; exact hu)
    rw [show off + 1 + j = off + (j + 1) by omega]; exact this
/-- Rows, each at its value. -/
def RowsU (w : World) (o : Nat → Nat × Nat) (us : List Value) (ls : List (List Int)) : Prop := us.length = ls.length ∧ ∀ (j : Nat) u l, us[j]? = some u → ls[j]? = some l → IntR w o (0, 0) u l
theorem RowsU.fr {T : Nat × Nat → Prop} {w w' : World} {o o' : Nat → Nat × Nat} {us : List Value} {ls : List (List Int)} (h : RowsU w o us ls) (f : Fr T o o' w w') (ht : ¬ T (0, 0)) : RowsU w' o' us ls := ⟨h.1, fun j u l hu hl => (h.2 j u l hu hl).fr f ht⟩
theorem RowsU.nil (w : World) (o : Nat → Nat × Nat) : RowsU w o [] [] := ⟨rfl, fun j u l h => by simp at h⟩
theorem RowsU.snoc {w : World} {o : Nat → Nat × Nat} {us : List Value} {ls : List (List Int)} (h : RowsU w o us ls) {u : Value} {l : List Int} (hu : IntR w o (0, 0) u l) : RowsU w o (us ++ [u]) (ls ++ [l]) := by
  refine ⟨by simp [h.1], fun j v m hv hm => ?_⟩
  rcases snoc_at hv with hv | ⟨hi, rfl⟩
  · rcases snoc_at hm with hm | ⟨hj, _⟩
    · exact h.2 j v m hv hm
    · have := (List.getElem?_eq_some_iff.1 hv).1
      have := h.1
      omega
  · rcases snoc_at hm with hm | ⟨_, rfl⟩
    · have := (List.getElem?_eq_some_iff.1 hm).1
      have := h.1
      omega
    · exact hu
theorem RowsU.set {w : World} {o : Nat → Nat × Nat} {us : List Value} {ls : List (List Int)} (h : RowsU w o us ls) (i : Nat) {u : Value} {l : List Int} (hu : IntR w o (0, 0) u l) : RowsU w o (us.set i u) (ls.set i l) := by
  refine ⟨by simp [h.1], fun j v m hv hm => ?_⟩
  by_cases e : i = j
  · subst e
    rw [List.getElem?_set_self'] at hv hm
    cases hx : us[i]? with
    | none => rw [hx] at hv; cases hv
    | some y =>
      cases hz : ls[i]? with
      | none => rw [hz] at hm; cases hm
      | some z =>
        rw [hx] at hv; rw [hz] at hm
        simp at hv hm
        subst hv hm
        exact hu
  · rw [List.getElem?_set_ne e] at hv hm
    exact h.2 j v m hv hm
theorem RowsU.form {w : World} {o : Nat → Nat × Nat} {us : List Value} {ls : List (List Int)} (h : RowsU w o us ls) {j : Nat} {l : List Int} (hl : ls[j]? = some l) : ∃ a c, us[j]? = some (.slice a l.length c) ∧ IntR w o (0, 0) (.slice a l.length c) l := by
  have hj := (List.getElem?_eq_some_iff.1 hl).1
  have hu := List.getElem?_eq_getElem (l := us) (i := j) (by rw [h.1]; exact hj)
  have hr := h.2 j _ l hu hl
  obtain ⟨a, c, e, _⟩ := hr.form
  exact ⟨a, c, by rw [hu, e], by rw [← e]; exact hr⟩
/-- Rows that came in. -/
def RowsR (w : World) (V : Value) (rl : List (List Int)) : Prop :=
  (rl = [] ∧ ∃ A c, V = .slice A 0 c) ∨ ∃ g off cap us, V = .slice (some ⟨g, off, none⟩) rl.length cap ∧ rl.length ≤ cap ∧ RowsU w o0 us rl ∧ ∀ j u, us[j]? = some u → w.cell? ⟨g, off + j, none⟩ = some u
theorem RowsR.form {w : World} {V : Value} {rl : List (List Int)} (h : RowsR w V rl) : ∃ a c, V = .slice a rl.length c ∧ rl.length ≤ c := by
  rcases h with ⟨rfl, A, c, rfl⟩ | ⟨g, off, cap, us, rfl, h1, _⟩
  · exact ⟨A, c, rfl, Nat.zero_le _⟩
  · exact ⟨_, cap, rfl, h1⟩
theorem RowsR.read {w : World} {a : Option Addr} {n c : Nat} {rl : List (List Int)} (h : RowsR w (.slice a n c) rl) {j : Nat} {l : List Int} (hl : rl[j]? = some l) : ∃ g off b d, a = some ⟨g, off, none⟩ ∧ w.cell? ⟨g, off + j, none⟩ = some (.slice b l.length d) ∧ IntR w o0 (0, 0) (.slice b l.length d) l := by
  rcases h with ⟨rfl, _⟩ | ⟨g, off, cap, us, e, h1, h2, h3⟩
  · cases hl
  · injection e with e1
    obtain ⟨b, d, hu, hr⟩ := h2.form hl
    exact ⟨g, off, b, d, e1, h3 j _ hu, hr⟩
/-- The first six. -/
theorem RowsR.head6 {w : World} {a : Option Addr} {n c : Nat} {rl : List (List Int)} (h : RowsR w (.slice a n c) rl) (hn : 6 < rl.length) :
    (∀ w' : World, (Instr.sliceAt 46 (.slice a n c) none (some (.int .i64 6)) none).run Try.prog w' = .ok (.slice a 6 c) w') ∧ RowsR w (.slice a 6 c) (rl.take 6) := by
  rcases h with ⟨rfl, _⟩ | ⟨g, off, cap, us, e, h1, h2, h3⟩
  · simp at hn
  · injection e with e1 e2 e3
    subst e1 e2 e3
    refine ⟨fun w' => slice_hiG 46 36 1 elem46 elem46' size36' g off rl.length c 6 (by omega) w', .inr ⟨g, off, c, us.take 6, by rw [List.length_take, Nat.min_eq_left (by omega)], by rw [List.length_take]; omega, ⟨by simp [h2.1], fun j u l hu hl => ?_⟩, fun j u hu => ?_⟩⟩
    · rw [List.getElem?_take] at hu hl
      split at hu
      · rename_i hj
        rw [if_pos hj] at hl
        exact h2.2 j u l hu hl
      · cases hu
    · rw [List.getElem?_take] at hu
      split at hu
      · exact h3 j u hu
      · cases hu
end Go.Proofs.Ytpepklgahljhbaa
