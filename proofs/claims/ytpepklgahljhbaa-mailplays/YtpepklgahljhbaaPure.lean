/-
  DRAINING, as plain lists: one box of a round, a round, rounds.
-/
namespace Go.Proofs.Ytpepklgahljhbaa

/-- What is left in each box, and what was taken. -/
abbrev S := List (List Int) × List Int
/-- One box of a round. -/
def st (k i : Nat) (s : S) : S := if k ≤ s.2.length then s else match s.1[i]? with
  | some (x :: xs) => (s.1.set i xs, s.2 ++ [x])
  | _ => s
/-- The first i boxes of a round. -/
def rnp (k : Nat) : Nat → S → S
  | 0, s => s
  | i + 1, s => st k i (rnp k i s)
/-- So many rounds. -/
def itr (k n : Nat) : Nat → S → S
  | 0, s => s
  | m + 1, s => rnp k n (itr k n m s)
theorem st_full {k i : Nat} {s : S} (h : k ≤ s.2.length) : st k i s = s := by simp [st, h]
theorem st_none {k i : Nat} {s : S} (h : s.1[i]? = some []) : st k i s = s := by unfold st; rw [h]; split <;> rfl
theorem st_some {k i : Nat} {s : S} {x : Int} {xs : List Int} (hk : ¬ k ≤ s.2.length) (h : s.1[i]? = some (x :: xs)) : st k i s = (s.1.set i xs, s.2 ++ [x]) := by
  unfold st; rw [if_neg hk, h]
theorem rnp_full {k : Nat} {s : S} (h : k ≤ s.2.length) : ∀ n, rnp k n s = s
  | 0 => rfl
  | n + 1 => by show st k n (rnp k n s) = s; rw [rnp_full h n, st_full h]
theorem rnp_more {k j : Nat} {s : S} (h : k ≤ (rnp k j s).2.length) : ∀ d, rnp k (j + d) s = rnp k j s
  | 0 => rfl
  | d + 1 => by show st k (j + d) (rnp k (j + d) s) = _; rw [rnp_more h d, st_full h]
theorem st_ways (k i : Nat) (s : S) : st k i s = s ∨ ∃ x xs, s.1[i]? = some (x :: xs) ∧ ¬ k ≤ s.2.length ∧ st k i s = (s.1.set i xs, s.2 ++ [x]) := by
  by_cases hk : k ≤ s.2.length
  · exact .inl (st_full hk)
  · cases h : s.1[i]? with
    | none => left; unfold st; rw [h]; split <;> rfl
    | some l =>
      cases l with
      | nil => exact .inl (st_none h)
      | cons x xs => exact .inr ⟨x, xs, rfl, hk, st_some hk h⟩
theorem rnp_grows (k : Nat) (s : S) : ∀ n, s.2.length ≤ (rnp k n s).2.length ∧ ((rnp k n s).2.length = s.2.length → rnp k n s = s)
  | 0 => ⟨Nat.le_refl _, fun _ => rfl⟩
  | n + 1 => by
    obtain ⟨h1, h2⟩ := rnp_grows k s n
    show s.2.length ≤ (st k n (rnp k n s)).2.length ∧ ((st k n (rnp k n s)).2.length = s.2.length → st k n (rnp k n s) = s)
    rcases st_ways k n (rnp k n s) with e | ⟨x, xs, _, _, e⟩
    · rw [e]; exact ⟨h1, h2⟩
    · rw [e]; simp only [List.length_append, List.length_singleton]
      exact ⟨by omega, fun h => by omega⟩
theorem rnp_len (k : Nat) (s : S) : ∀ n, (rnp k n s).1.length = s.1.length
  | 0 => rfl
  | n + 1 => by
    show (st k n (rnp k n s)).1.length = _
    rcases st_ways k n (rnp k n s) with e | ⟨x, xs, _, _, e⟩
    · rw [e]; exact rnp_len k s n
    · rw [e]; simp only [List.length_set]; exact rnp_len k s n
/-- How much there is. -/
def tot (s : S) : Nat := (s.1.map List.length).sum + s.2.length
theorem sum_set (l : List Nat) : ∀ (i x y : Nat), l[i]? = some x → (l.set i y).sum + x = l.sum + y := by
  induction l with
  | nil => intro i x y h; cases h
  | cons a l ih =>
    intro i x y h
    cases i with
    | zero => simp at h; subst h; simp; omega
    | succ i => rw [List.getElem?_cons_succ] at h; have := ih i x y h; simp; omega
theorem st_tot (k i : Nat) (s : S) : tot (st k i s) = tot s := by
  rcases st_ways k i s with e | ⟨x, xs, h, _, e⟩
  · rw [e]
  · rw [e]
    unfold tot
    have := sum_set (s.1.map List.length) i (xs.length + 1) xs.length (by simp [h])
    simp only [List.map_set, List.length_append, List.length_singleton]
    omega
theorem rnp_tot (k : Nat) (s : S) : ∀ n, tot (rnp k n s) = tot s
  | 0 => rfl
  | n + 1 => (st_tot k n _).trans (rnp_tot k s n)
theorem itr_tot (k n : Nat) (s : S) : ∀ m, tot (itr k n m s) = tot s
  | 0 => rfl
  | m + 1 => (rnp_tot k _ n).trans (itr_tot k n s m)
theorem itr_len (k n : Nat) (s : S) : ∀ m, (itr k n m s).1.length = s.1.length
  | 0 => rfl
  | m + 1 => (rnp_len k _ n).trans (itr_len k n s m)
theorem itr_fix {k n m : Nat} {s : S} (h : rnp k n (itr k n m s) = itr k n m s) : ∀ d, itr k n (m + d) s = itr k n m s
  | 0 => rfl
  | d + 1 => by show rnp k n (itr k n (m + d) s) = _; rw [itr_fix h d, h]
/-- Rounds end in one way. -/
theorem itr_one {k n m m' : Nat} {s : S} (h : rnp k n (itr k n m s) = itr k n m s) (h' : rnp k n (itr k n m' s) = itr k n m' s) : itr k n m s = itr k n m' s := by
  rcases Nat.le_total m m' with hl | hl
  · obtain ⟨d, rfl⟩ := Nat.le.dest hl
    exact (itr_fix h d).symm
  · obtain ⟨d, rfl⟩ := Nat.le.dest hl
    exact itr_fix h' d
end Go.Proofs.Ytpepklgahljhbaa
