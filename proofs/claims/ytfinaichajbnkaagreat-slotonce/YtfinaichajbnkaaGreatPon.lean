/-
  once.
-/
import Derived.Test.YtfinaichajbnkaaGreatPdo
import Derived.Test.YtfinaichajbnkaaGreatPns
import Derived.Test.YtfinaichajbnkaaGreatPra
namespace Go.Proofs.YtfinaichajbnkaaGreat
open Go.RowKit
open Wi (F)

/-- A request done, if it wasn't; what it is answered. -/
def Sl.onc (s : Sl) (f : F) : F × Sl := match s.done.find? fun a => a.rid == f.rid with
  | some a => (a, s)
  | none => ((s.doo f).1, { s with z := (s.doo f).2, done := s.done ++ [(s.doo f).1] })
theorem was_some {d : List F} {r : Int} (hup : d.Pairwise fun a b => a.rid < b.rid) (h : was d r = true) : ∃ a, d[low d r]? = some a ∧ a.rid = r := by
  induction d with
  | nil => cases h
  | cons a d ih =>
    obtain ⟨h1, h2⟩ := List.pairwise_cons.1 hup
    rw [low_cons]
    by_cases hr : a.rid = r
    · have e : low d r = 0 := by
        unfold low
        rw [List.filter_eq_nil_iff.2 (fun b hb => by have := h1 b hb; simp; omega)]; rfl
      rw [if_neg (by omega), e]
      exact ⟨a, rfl, hr⟩
    · have hw : was d r = true := by
        unfold was at h ⊢
        rw [List.any_cons] at h
        have : (a.rid == r) = false := by simp [hr]
        rwa [this, Bool.false_or] at h
      obtain ⟨b, hb, hbr⟩ := ih h2 hw
      have := h1 b (List.mem_of_getElem? hb)
      rw [if_pos (by omega), List.getElem?_cons_succ]
      exact ⟨b, hb, hbr⟩
theorem DnOk.find {l d : List F} (h : DnOk l d) {a : F} (ha : a ∈ d) {r : Int} (hr : a.rid = r) : l.find? (fun a => a.rid == r) = some a := by
  cases hf : l.find? (fun a => a.rid == r) with
  | none =>
    have := (List.find?_eq_none.1 hf) a (h.pm.mem_iff.1 ha)
    simp [hr] at this
  | some b =>
    have hb := List.mem_of_find?_eq_some hf
    have hbr := List.find?_some hf
    simp only [beq_iff_eq] at hbr
    have hbd := h.pm.mem_iff.2 hb
    have hp := h.up
    congr 1
    by_cases e : b = a
    · exact e
    · exfalso
      obtain ⟨i, hi, rfl⟩ := List.getElem_of_mem ha
      obtain ⟨j, hj, rfl⟩ := List.getElem_of_mem hbd
      have hp := List.pairwise_iff_getElem.1 hp
      rcases Nat.lt_trichotomy i j with h1 | h1 | h1
      · have := hp i j hi hj h1; omega
      · subst h1; exact e rfl
      · have := hp j i hj hi h1; omega
theorem tak_low {d : List F} (hup : d.Pairwise fun a b => a.rid < b.rid) (r : Int) : d.take (low d r) = d.filter fun a => decide (a.rid < r) := by
  induction d with
  | nil => rfl
  | cons a d ih =>
    obtain ⟨h1, h2⟩ := List.pairwise_cons.1 hup
    rw [low_cons, List.filter_cons]
    by_cases h : a.rid < r
    · rw [if_pos h, if_pos (by simp [h]), List.take_succ_cons, ih h2]
    · rw [if_neg h, if_neg (by simp [h])]
      have e : low d r = 0 := by
        unfold low
        rw [List.filter_eq_nil_iff.2 (fun b hb => by have := h1 b hb; simp; omega)]; rfl
      rw [e, List.take_zero, List.filter_eq_nil_iff.2 (fun b hb => by have := h1 b hb; simp; omega)]
theorem DnOk.find_no {l d : List F} (h : DnOk l d) {r : Int} (hw : was d r = false) : l.find? (fun a => a.rid == r) = none := by
  rw [List.find?_eq_none]
  intro a ha
  unfold was at hw
  rw [List.any_eq_false] at hw
  exact hw a (h.pm.mem_iff.2 ha)
theorem dn_ins {l d : List F} (h : DnOk l d) {a : F} {r : Int} (hr : a.rid = r) (hw : was d r = false) : DnOk (l ++ [a]) (d.take (low d r) ++ a :: d.drop (low d r)) := by
  have ht := tak_low h.up r
  have hd := drop_low h.up r
  have hlo : ∀ b ∈ d.take (low d r), b.rid < r := fun b hb => by
    rw [ht] at hb
    simpa using (List.mem_filter.1 hb).2
  have hhi : ∀ b ∈ d.drop (low d r), r < b.rid := fun b hb => by
    have hm : b ∈ d := List.mem_of_mem_drop hb
    rw [hd] at hb
    have h1 := (List.mem_filter.1 hb).2
    simp only [decide_eq_true_eq] at h1
    unfold was at hw
    rw [List.any_eq_false] at hw
    have h2 := hw b hm
    simp only [beq_iff_eq] at h2
    omega
  refine ⟨?_, ?_⟩
  · have h1 : (d.take (low d r) ++ a :: d.drop (low d r)).Perm (a :: d) := by
      have := List.perm_middle (a := a) (l₁ := d.take (low d r)) (l₂ := d.drop (low d r))
      rwa [List.take_append_drop] at this
    exact (h1.trans (h.pm.cons a)).trans (List.perm_append_singleton a l).symm
  · refine List.pairwise_append.2 ⟨h.up.sublist (List.take_sublist _ _), List.pairwise_cons.2 ⟨fun b hb => ?_, h.up.sublist (List.drop_sublist _ _)⟩, fun b hb c hc => ?_⟩
    · have := hhi b hb; omega
    · have h1 := hlo b hb
      rcases List.mem_cons.1 hc with rfl | hc
      · omega
      · have := hhi c hc; omega
end Go.Proofs.YtfinaichajbnkaaGreat
