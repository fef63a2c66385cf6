/-
  PLAIN DATA: what was handed out and not yet given back, with its data; what memory it needs.
-/
import Derived.Test.YtjokabpdaihgpaaLed
namespace Go.Proofs.Ytjokabpdaihgpaa

/-- The memory of chunks. -/
def needL : List (Nat × Nat) → Nat
  | [] => 0
  | h :: l => sz h.1 + needL l
theorem needL_append (l m : List (Nat × Nat)) : needL (l ++ m) = needL l + needL m := by
  induction l with
  | nil => simp [needL]
  | cons h l ih => simp [needL, ih]; omega
theorem cutout {α : Type} (l : List α) (k : Nat) (h : α) (e : l[k]? = some h) : l = l.take k ++ h :: l.drop (k + 1) := by
  have hk := (List.getElem?_eq_some_iff.1 e).1
  have e2 : l[k] = h := (List.getElem?_eq_some_iff.1 e).2
  rw [← e2, List.getElem_cons_drop hk, List.take_append_drop]
/-- One place taken out. -/
def out {α : Type} (l : List α) (k : Nat) : List α := l.take k ++ l.drop (k + 1)
theorem out_length {α : Type} (l : List α) (k : Nat) (hk : k < l.length) : (out l k).length = l.length - 1 := by
  unfold out; rw [List.length_append, List.length_take, List.length_drop]; omega
theorem out_at {α : Type} (l : List α) (k j : Nat) (hk : k < l.length) : (out l k)[j]? = l[if j < k then j else j + 1]? := by
  unfold out
  by_cases h : j < k
  · rw [if_pos h, List.getElem?_append_left (by rw [List.length_take]; omega), List.getElem?_take, if_pos h]
  · rw [if_neg h, List.getElem?_append_right (by rw [List.length_take]; omega), List.length_take, List.getElem?_drop]
    congr 1; omega
theorem nodup_inj {α : Type} {l : List α} (h : l.Nodup) {i j : Nat} {x : α} (hi : l[i]? = some x) (hj : l[j]? = some x) : i = j := by
  have h' := List.pairwise_iff_getElem.1 h
  obtain ⟨i1, i2⟩ := List.getElem?_eq_some_iff.1 hi
  obtain ⟨j1, j2⟩ := List.getElem?_eq_some_iff.1 hj
  rcases Nat.lt_trichotomy i j with hlt | e | hgt
  · exact absurd (i2.trans j2.symm) (h' i j i1 j1 hlt)
  · exact e
  · exact absurd (j2.trans i2.symm) (h' j i j1 i1 hgt)
structure Led (s : St) (hs : List (Nat × Nat)) (ds : List ByteArray) : Prop where
  ok : Ok s
  len : hs.length = ds.length
  nd : hs.Nodup
  at' : ∀ (k : Nat) (h : Nat × Nat) (d : ByteArray), hs[k]? = some h → ds[k]? = some d → s.at h d ∧ d.size ≤ sz h.1
  live : s.live = hs.length
  need : s.wt sz = needL hs
theorem Led.new {p size n : Nat} (h : Ok (St.new p size n)) : Led (St.new p size n) [] [] :=
  ⟨h, rfl, List.nodup_nil, fun k h d e => by simp at e, sumN_zero (fun _ _ => rfl), by
    show sumN _ n = 0
    exact sumN_zero (fun _ _ => by simp [St.new])⟩
theorem Led.alloc {s : St} {hs : List (Nat × Nat)} {ds : List ByteArray} (h : Led s hs ds) (d : ByteArray) {i k : Nat} (e : (s.alloc d).1 = (i, k, 0)) : Led (s.alloc d).2 (hs ++ [(i, k)]) (ds ++ [d]) ∧ ∀ (j : Nat) (b : Nat × Nat), hs[j]? = some b → b ≠ (i, k) := by
  obtain ⟨hnew, hold⟩ := h.ok.alloc_at d e
  have hfit : d.size ≤ sz i := by
    obtain ⟨i', s1, _, _, _, _, _, _, _, _, _, e2, hc⟩ := h.ok.alloc_ok d (by rw [e])
    rw [e2] at e
    injection e with e3 _
    rw [← e3]; exact (clsOf_some hc).2.1
  have hne : ∀ (j : Nat) (b : Nat × Nat), hs[j]? = some b → b ≠ (i, k) := fun j b hb => by
    have hj := (List.getElem?_eq_some_iff.1 hb).1
    obtain ⟨x, hx⟩ : ∃ x, ds[j]? = some x := ⟨_, List.getElem?_eq_getElem (by rw [← h.len]; exact hj)⟩
    exact (hold b x (h.at' j b x hb hx).1).1
  refine ⟨⟨h.ok.alloc d, by simp [h.len], ?_, fun j b x hb hx => ?_, ?_, ?_⟩, hne⟩
  · rw [List.nodup_append]
    refine ⟨h.nd, by simp, fun a ha b hb => ?_⟩
    simp at hb; subst hb
    obtain ⟨j, hj⟩ := List.mem_iff_getElem?.1 ha
    exact hne j a hj
  · by_cases hj : j < hs.length
    · rw [List.getElem?_append_left hj] at hb
      rw [List.getElem?_append_left (by rw [← h.len]; exact hj)] at hx
      obtain ⟨h1, h2⟩ := h.at' j b x hb hx
      exact ⟨(hold b x h1).2, h2⟩
    · rw [List.getElem?_append_right (by omega)] at hb
      rw [List.getElem?_append_right (by rw [← h.len]; omega)] at hx
      have e0 : j - hs.length = 0 := by
        have := (List.getElem?_eq_some_iff.1 hb).1
        simp at this; omega
      rw [e0] at hb
      rw [← h.len, e0] at hx
      simp at hb hx
      subst hb hx
      exact ⟨hnew, hfit⟩
  · have := h.ok.wt_alloc d (fun _ => 1)
    rw [St.wt_one, St.wt_one, e, if_pos rfl, h.live] at this
    rw [this]; simp
  · have := h.ok.wt_alloc d sz
    rw [e, if_pos rfl, h.need] at this
    rw [this, needL_append]; simp [needL]
theorem Led.free {s : St} {hs : List (Nat × Nat)} {ds : List ByteArray} (h : Led s hs ds) {k : Nat} {c : Nat × Nat} (e : hs[k]? = some c) : s.has c.1 c.2 = true ∧ (s.free c.1 c.2).has c.1 c.2 = false ∧ Led (s.free c.1 c.2) (out hs k) (out ds k) := by
  have hk := (List.getElem?_eq_some_iff.1 e).1
  have hkd : k < ds.length := by rw [← h.len]; exact hk
  obtain ⟨d, hd⟩ : ∃ d, ds[k]? = some d := ⟨_, List.getElem?_eq_getElem hkd⟩
  obtain ⟨hat, _⟩ := h.at' k c d e hd
  have hhas := (St.at_has hat).1
  obtain ⟨hgone, hold⟩ := St.free_at hat
  have hce := cutout hs k c e
  have hnd := h.nd
  rw [hce, List.nodup_append] at hnd
  obtain ⟨n1, n2, n3⟩ := hnd
  rw [List.nodup_cons] at n2
  refine ⟨hhas, hgone, h.ok.free _ _, by rw [out_length _ _ hk, out_length _ _ hkd, h.len], ?_, fun j b x hb hx => ?_, ?_, ?_⟩
  · unfold out; rw [List.nodup_append]
    exact ⟨n1, n2.2, fun a ha b hb => n3 a ha b (List.mem_cons_of_mem _ hb)⟩
  · rw [out_at _ _ _ hk] at hb
    rw [out_at _ _ _ hkd] at hx
    obtain ⟨h1, h2⟩ := h.at' _ b x hb hx
    refine ⟨hold b x (fun e2 => ?_) h1, h2⟩
    rw [e2] at hb
    have := nodup_inj h.nd hb e
    split at this <;> omega
  · have := h.ok.wt_free c.1 c.2 (fun _ => 1)
    rw [St.wt_one, St.wt_one, if_pos hhas, h.live] at this
    rw [out_length _ _ hk]; omega
  · have := h.ok.wt_free c.1 c.2 sz
    rw [if_pos hhas, h.need, Int.toNat_natCast] at this
    have e2 : needL hs = needL (out hs k) + sz c.1 := by
      conv => lhs; rw [hce]
      unfold out; rw [needL_append, needL_append]; simp [needL]; omega
    omega
theorem Led.fits {s : St} {hs : List (Nat × Nat)} {ds : List ByteArray} (h : Led s hs ds) : needL hs ≤ (s.pages - s.left) * s.page := by rw [← h.need]; exact h.ok.wt_sz
end Go.Proofs.Ytjokabpdaihgpaa
