/-
  THE ORDER OF KEYS; lists of entries by rising keys.
-/
import Derived.Test.YtpkmfckifnomeaaDoorCol
namespace Go.Proofs.YtpkmfckifnomeaaDoor
open Go.RowKit Go.Maps Go.Sort Go.Shelf

theorem u8_tri (x y : UInt8) : x < y ∨ x = y ∨ y < x := by
  rcases Nat.lt_trichotomy x.toNat y.toNat with h | h | h
  · exact .inl (UInt8.lt_iff_toNat_lt.2 h)
  · exact .inr (.inl (UInt8.toNat_inj.1 h))
  · exact .inr (.inr (UInt8.lt_iff_toNat_lt.2 h))
theorem bb_irrefl : ∀ a : B, bytesBefore a a = false
  | [] => rfl
  | a :: r => by
    rw [bytesBefore, bb_irrefl r]
    simp
theorem bb_trans : ∀ a b c : B, bytesBefore a b = true → bytesBefore b c = true → bytesBefore a c = true
  | [], [], _, h, _ => by simp [bytesBefore] at h
  | [], _ :: _, [], _, h => by simp [bytesBefore] at h
  | [], _ :: _, _ :: _, _, _ => rfl
  | _ :: _, [], _, h, _ => by simp [bytesBefore] at h
  | _ :: _, _ :: _, [], _, h => by simp [bytesBefore] at h
  | x :: a, y :: b, z :: c, h, k => by
    simp only [bytesBefore, Bool.or_eq_true, decide_eq_true_eq, Bool.and_eq_true, beq_iff_eq] at h k ⊢
    rcases h with h | ⟨rfl, h⟩
    · rcases k with k | ⟨rfl, k⟩
      · exact .inl (UInt8.lt_trans h k)
      · exact .inl h
    · rcases k with k | ⟨rfl, k⟩
      · exact .inl k
      · exact .inr ⟨rfl, bb_trans a b c h k⟩
theorem bb_total : ∀ a b : B, a = b ∨ bytesBefore a b = true ∨ bytesBefore b a = true
  | [], [] => .inl rfl
  | [], _ :: _ => .inr (.inl rfl)
  | _ :: _, [] => .inr (.inr rfl)
  | x :: a, y :: b => by
    simp only [bytesBefore, Bool.or_eq_true, decide_eq_true_eq, Bool.and_eq_true, beq_iff_eq, List.cons.injEq]
    rcases u8_tri x y with h | rfl | h
    · exact .inr (.inl (.inl h))
    · rcases bb_total a b with rfl | h | h
      · exact .inl ⟨rfl, rfl⟩
      · exact .inr (.inl (.inr ⟨rfl, h⟩))
      · exact .inr (.inr (.inr ⟨rfl, h⟩))
    · exact .inr (.inr (.inl h))
def ltE (x y : En) : Bool := bytesBefore (L x.key) (L y.key)
/-- By rising keys. -/
def Srt (l : List En) : Prop := l.Pairwise fun x y => bytesBefore (L x.key) (L y.key) = true
theorem Srt.nil : Srt [] := List.Pairwise.nil
theorem Srt.del {l : List En} (h : Srt l) (k : B) : Srt (del k l) := h.filter _
theorem Srt.ins {e : En} : ∀ {l : List En}, Srt l → (∀ y ∈ l, L y.key ≠ L e.key) → Srt (ins e l)
  | [], _, _ => List.pairwise_singleton _ _
  | y :: r, h, hne => by
    obtain ⟨h1, h2⟩ := List.pairwise_cons.1 h
    rw [YtpkmfckifnomeaaDoor.ins]
    split
    · rename_i hb
      refine List.pairwise_cons.2 ⟨fun z hz => ?_, h⟩
      rcases List.mem_cons.1 hz with rfl | hz
      · exact hb
      · exact bb_trans _ _ _ hb (h1 z hz)
    · rename_i hb
      refine List.pairwise_cons.2 ⟨fun z hz => ?_, Srt.ins h2 (fun y hy => hne y (List.mem_cons_of_mem _ hy))⟩
      rcases mem_ins hz with rfl | hz
      · rcases bb_total (L y.key) (L z.key) with e | e | e
        · exact absurd e (hne y List.mem_cons_self)
        · exact e
        · exact absurd e hb
      · exact h1 z hz
theorem Srt.put {l : List En} (h : Srt l) (e : En) : Srt (put e l) := by
  refine Srt.ins (h.del _) (fun y hy => ?_)
  have := (List.mem_filter.1 hy).2
  simpa using this
theorem Srt.look {l : List En} (h : Srt l) {x : En} (hx : x ∈ l) : look (L x.key) l = some x := by
  induction l with
  | nil => cases hx
  | cons y r ih =>
    obtain ⟨h1, h2⟩ := List.pairwise_cons.1 h
    unfold YtpkmfckifnomeaaDoor.look
    rw [List.find?_cons]
    rcases List.mem_cons.1 hx with rfl | hx
    · simp
    · have : (L y.key == L x.key) = false := by
        simp only [beq_eq_false_iff_ne]
        intro e
        have := h1 x hx
        rw [e, bb_irrefl] at this; cases this
      rw [this]
      exact ih h2 hx
theorem keys_dm (l : List En) : strKeys (dm l) = l.map fun x => L x.key := by
  show (l.map fun e => (ky e, (.held e : DataW En))).map (fun p => strOf p.1) = _
  rw [List.map_map]
  rfl
/-- What came, sorted, is the list. -/
theorem came_sorted {l xs ys : List En} (hl : Srt l) (hc : Came l xs) (hp : ys.Perm xs) (hs : ys.Pairwise fun x y => ltE y x = false) : ys = l := by
  obtain ⟨h1, h2⟩ := hc
  rw [keys_dm] at h1
  have hk : (ys.map fun x => L x.key).Perm (l.map fun x => L x.key) := (hp.map _).trans h1
  have hy : ∀ y ∈ ys, look (L y.key) l = some y := fun y hy => h2 y (hp.mem_iff.1 hy)
  have e : (ys.map fun x => L x.key) = l.map fun x => L x.key := by
    refine List.Perm.eq_of_pairwise (le := fun a b => bytesBefore b a = false) (fun a b _ _ h1 h2 => ?_) ?_ ?_ hk
    · rcases bb_total a b with h | h | h
      · exact h
      · rw [h] at h2; cases h2
      · rw [h] at h1; cases h1
    · exact List.pairwise_map.2 hs
    · refine List.pairwise_map.2 (hl.imp fun {a b} h => ?_)
      cases hh : bytesBefore (L b.key) (L a.key) with
      | false => rfl
      | true => have := bb_trans _ _ _ h hh; rw [bb_irrefl] at this; cases this
  have r1 : ys = (ys.map fun x => L x.key).map fun k => (look k l).getD e0 := by
    rw [List.map_map]
    conv => lhs; rw [← List.map_id ys]
    exact List.map_congr_left fun y hyy => by simp [hy y hyy]
  have r2 : l = (l.map fun x => L x.key).map fun k => (look k l).getD e0 := by
    rw [List.map_map]
    conv => lhs; rw [← List.map_id l]
    exact List.map_congr_left fun y hyy => by simp [hl.look hyy]
  rw [r1, e, ← r2]
end Go.Proofs.YtpkmfckifnomeaaDoor
