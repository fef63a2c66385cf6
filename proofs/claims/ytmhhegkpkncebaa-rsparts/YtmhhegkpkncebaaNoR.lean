/-
  RIGHT of the reference, in one form.
-/
import Derived.Test.YtmhhegkpkncebaaRight2
import Derived.Test.YtmhhegkpkncebaaPick
namespace Go.Proofs.Ytmhhegkpkncebaa
open Go.RowKit

theorem MatL.drewN {w : World} {a : Option Addr} {A : Nat → Nat → Nat} {L : Nat → Nat} {m : Nat} (h : MatL w a A L m) (k : Nat) : MatL (w.drewN k) a A L m := h
theorem MatL.at0 {w : World} {a : Option Addr} {A : Nat → Nat → Nat} {L : Nat → Nat} {m : Nat} (h : MatL w a A L m) (hm : 1 ≤ m) : ∃ p off ra rc, a = some ⟨p, off, none⟩ ∧ w.cell? ⟨p, off, none⟩ = some (.slice ra (L 0) rc) := by
  rcases h with h | ⟨p, off, e, hr⟩
  · exfalso; omega
  · obtain ⟨ra, rc, h1, _⟩ := hr 0 (by omega)
    exact ⟨p, off, ra, rc, e, h1⟩
theorem rright_full (a : Option Addr) (m c : Nat) (A : Nat → Nat → Nat) (L : Nat → Nat) (b : Bool) (hL : ∀ i, i < m → L i ≤ 140737488351232) (hb : b = true ↔ Good L m) (w : World) (ra : MatL w a A L m) :
    Calls Try.prog 47 #[.slice a m c] w fun e w' => e = .returned (.bool b) ∧ ∃ k, w' = w.drewN k := by
  by_cases h : m = 0 ∨ 12 < m
  · have hbf : b = false := by
      cases hbb : b with
      | false => rfl
      | true => have := hb.1 hbb; exfalso; have h1 := this.1; have h2 := this.2.1; omega
    subst hbf
    exact (rright_no0 a m c h w).mono fun e w' ⟨h1, h2⟩ => ⟨h1, 0, by rw [h2]; rfl⟩
  · exact rright_any a m c A L b (by omega) (by omega) hL hb w ra
theorem rright_yes' (a : Option Addr) (m c : Nat) (A : Nat → Nat → Nat) (L : Nat → Nat) (hL : ∀ i, i < m → L i ≤ 140737488351232) (hg : Good L m) (w : World) (ra : MatL w a A L m) :
    Calls Try.prog 47 #[.slice a m c] w fun e w' => e = .returned (.bool true) ∧ ∃ k, w' = w.drewN k := rright_full a m c A L true hL ⟨fun _ => hg, fun _ => rfl⟩ w ra
theorem rright_no' (a : Option Addr) (m c : Nat) (A : Nat → Nat → Nat) (L : Nat → Nat) (hL : ∀ i, i < m → L i ≤ 140737488351232) (hg : ¬ Good L m) (w : World) (ra : MatL w a A L m) :
    Calls Try.prog 47 #[.slice a m c] w fun e w' => e = .returned (.bool false) ∧ ∃ k, w' = w.drewN k := rright_full a m c A L false hL ⟨fun h => (by cases h), fun h => absurd h hg⟩ w ra
/-- The rows that a list holds lie in W. -/
def RowsIn (W : World) (xs : List Value) (A : Nat → Nat → Nat) (L : Nat → Nat) (k : Nat) : Prop := ∀ t, t < k → ∃ ra rc, xs[t]? = some (.slice ra (L t) rc) ∧ L t ≤ rc ∧ RowF W ra (A t) (L t)
theorem RowsIn.push {W : World} {xs : List Value} {A : Nat → Nat → Nat} {L : Nat → Nat} {k rc : Nat} {ra : Option Addr} (h : RowsIn W xs A L k) (hl : xs.length = k) (h1 : L k ≤ rc) (h2 : RowF W ra (A k) (L k)) : RowsIn W (xs ++ [.slice ra (L k) rc]) A L (k + 1) := by
  intro t ht
  by_cases e : t = k
  · subst e
    exact ⟨ra, rc, by rw [List.getElem?_append_right (by omega), hl, Nat.sub_self]; rfl, h1, h2⟩
  · obtain ⟨ra', rc', q1, q2, q3⟩ := h t (by omega)
    exact ⟨ra', rc', by rw [List.getElem?_append_left (by omega)]; exact q1, q2, q3⟩
theorem RowsIn.up {W W' : World} {xs : List Value} {A : Nat → Nat → Nat} {L : Nat → Nat} {k : Nat} (h : RowsIn W xs A L k) (hb : Below W.heap.size W W') : RowsIn W' xs A L k := fun t ht => by
  obtain ⟨ra, rc, q1, q2, q3⟩ := h t ht
  exact ⟨ra, rc, q1, q2, q3.below hb⟩
theorem RowsIn.matL {W w : World} {D k : Nat} {v : Value} {xs : List Value} {A : Nat → Nat → Nat} {L : Nat → Nat} (h : RowsIn W xs A L k) (hown : w.ownsRow D 54 1 v k xs) (hb : Below W.heap.size W w) :
    ∃ a c, v = .slice a k c ∧ MatL w a A L k := by
  by_cases hk : k = 0
  · subst hk
    rcases hown.2 with ⟨rfl, _⟩ | ⟨g, cap, cur, rfl, _⟩
    · exact ⟨none, 0, rfl, Or.inl rfl⟩
    · exact ⟨_, cap, rfl, Or.inl rfl⟩
  · obtain ⟨g, c, hv, _, _, _, hc⟩ := own_cells hown (by omega)
    refine ⟨_, c, hv, Or.inr ⟨g, 0, rfl, fun t ht => ?_⟩⟩
    obtain ⟨ra, rc, q1, q2, q3⟩ := h t ht
    exact ⟨ra, rc, by rw [Nat.zero_add]; exact hc t _ q1, q2, q3.below hb⟩
theorem one_slice' (ra : Option Addr) (a rc : Nat) : ∀ u ∈ [Value.slice ra a rc], u.oneCell' = true := by
  intro u hu; simp at hu; subst hu; rfl
theorem new_cell' (w : World) (v : Value) : ∀ j u, [v][j]? = some u → (w.alloc (.cells #[v] 54)).cell? ((⟨w.heap.size, 0, none⟩ : Addr).add j) = some u := by
  intro j u hj
  match j, hj with
  | 0, hj => simp at hj; subst hj; simp [Addr.add]

end Go.Proofs.Ytmhhegkpkncebaa
