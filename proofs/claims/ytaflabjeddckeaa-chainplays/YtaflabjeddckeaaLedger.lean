/-
  A CHAIN HELD AGAINST TWO LISTS: keys, and their numbers.
-/
import Derived.Test.YtaflabjeddckeaaAsks
namespace Go.Proofs.Ytaflabjeddckeaa
open Go.RowKit

def out {α : Type} (l : List α) (i : Nat) : List α := l.take i ++ l.drop (i + 1)
theorem out_length {α : Type} (l : List α) (i : Nat) (h : i < l.length) : (out l i).length = l.length - 1 := by
  unfold out; rw [List.length_append, List.length_take, List.length_drop]; omega
theorem out_at {α : Type} (l : List α) (i j : Nat) (h : i < l.length) : (out l i)[j]? = if j < i then l[j]? else l[j + 1]? := by
  unfold out
  by_cases hj : j < i
  · rw [if_pos hj, List.getElem?_append_left (by rw [List.length_take]; omega), List.getElem?_take, if_pos hj]
  · rw [if_neg hj, List.getElem?_append_right (by rw [List.length_take]; omega), List.length_take, List.getElem?_drop]
    congr 1; omega
structure Led (s : A) (ks : List ByteArray) (ns : List Int) : Prop where
  len : ks.length = ns.length
  keys : s.keys = (ks.length : Int)
  inj : ∀ (i j : Nat) k, ks[i]? = some k → ks[j]? = some k → i = j
  hit : ∀ (j : Nat) k v, ks[j]? = some k → ns[j]? = some v → s.F k = some v
  miss : ∀ k, (∀ j : Nat, ks[j]? ≠ some k) → s.F k = none
theorem Led.new : Led A0 [] [] := ⟨rfl, rfl, fun i j k h => by simp at h, fun j k v h => by simp at h, fun k _ => rfl⟩
theorem Led.some {s : A} {ks : List ByteArray} {ns : List Int} (h : Led s ks ns) {j : Nat} {k : ByteArray} (hj : ks[j]? = Option.some k) : (s.F k).isSome = true := by
  obtain ⟨v, hv⟩ : ∃ v, ns[j]? = Option.some v := ⟨_, List.getElem?_eq_getElem (by rw [← h.len]; exact (List.getElem?_eq_some_iff.1 hj).1)⟩
  rw [h.hit j k v hj hv]; rfl
/-- A key more. -/
theorem Led.add {s : A} {ks : List ByteArray} {ns : List Int} (h : Led s ks ns) (k : ByteArray) (v : Int) (hn : ∀ j : Nat, ks[j]? ≠ Option.some k) : Led (s.put k v) (ks ++ [k]) (ns ++ [v]) := by
  have hm := h.miss k hn
  have lastK : ∀ (j : Nat) q, (ks ++ [k])[j]? = Option.some q → ks[j]? = Option.some q ∨ j = ks.length ∧ q = k := by
    intro j q hj
    by_cases hlt : j < ks.length
    · rw [List.getElem?_append_left hlt] at hj; exact .inl hj
    · rw [List.getElem?_append_right (by omega)] at hj
      have : j - ks.length = 0 := by
        have := (List.getElem?_eq_some_iff.1 hj).1
        simp at this; omega
      rw [this] at hj
      simp at hj
      exact .inr ⟨by omega, hj.symm⟩
  refine ⟨by simp [h.len], ?_, ?_, ?_, ?_⟩
  · rw [A.put_keys, hm, h.keys]; simp
  · intro i j q hi hj
    rcases lastK i q hi with hi | ⟨hi, e⟩ <;> rcases lastK j q hj with hj | ⟨hj, e'⟩
    · exact h.inj i j q hi hj
    · rw [e'] at hi; exact absurd hi (hn i)
    · rw [e] at hj; exact absurd hj (hn j)
    · omega
  · intro j q u hj hu
    rw [A.put_F]
    rcases lastK j q hj with hj | ⟨hjl, e⟩
    · have hlt := (List.getElem?_eq_some_iff.1 hj).1
      rw [List.getElem?_append_left (by rw [← h.len]; exact hlt)] at hu
      rw [setF_other _ _ _ (fun e => hn j (by rw [← e]; exact hj))]
      exact h.hit j q u hj hu
    · subst e
      rw [hjl, h.len, List.getElem?_append_right (Nat.le_refl _), Nat.sub_self] at hu
      simp at hu
      rw [setF_same, hu]
  · intro q hq
    rw [A.put_F]
    have hne : q ≠ k := fun e => hq ks.length (by rw [e]; simp)
    rw [setF_other _ _ _ hne]
    refine h.miss q fun j hj => hq j ?_
    rw [List.getElem?_append_left (List.getElem?_eq_some_iff.1 hj).1]; exact hj
/-- A key's number turned. -/
theorem Led.turn {s : A} {ks : List ByteArray} {ns : List Int} (h : Led s ks ns) {p : Nat} {k : ByteArray} (v : Int) (hp : ks[p]? = Option.some k) : Led (s.put k v) ks (ns.set p v) := by
  have hs := h.some hp
  have hpl := (List.getElem?_eq_some_iff.1 hp).1
  refine ⟨by rw [List.length_set]; exact h.len, ?_, h.inj, ?_, ?_⟩
  · rw [A.put_keys, hs]; exact h.keys
  · intro j q u hj hu
    rw [A.put_F]
    by_cases e : p = j
    · subst e
      rw [hp] at hj; injection hj with hj; subst hj
      rw [List.getElem?_set_self (by rw [← h.len]; exact hpl)] at hu
      rw [setF_same]; exact hu
    · rw [List.getElem?_set_ne e] at hu
      rw [setF_other _ _ _ (fun e' => e (h.inj p j k hp (by rw [← e']; exact hj)))]
      exact h.hit j q u hj hu
  · intro q hq
    rw [A.put_F, setF_other _ _ _ (fun e => hq p (by rw [e]; exact hp))]
    exact h.miss q hq
/-- A key less. -/
theorem Led.less {s : A} {ks : List ByteArray} {ns : List Int} (h : Led s ks ns) {p : Nat} {k : ByteArray} (hp : ks[p]? = Option.some k) : Led (s.drop k) (out ks p) (out ns p) := by
  have hs := h.some hp
  have hpl := (List.getElem?_eq_some_iff.1 hp).1
  have hpn : p < ns.length := by rw [← h.len]; exact hpl
  refine ⟨by rw [out_length _ _ hpl, out_length _ _ hpn, h.len], ?_, ?_, ?_, ?_⟩
  · rw [A.drop_keys, hs, out_length _ _ hpl, h.keys]; simp; omega
  · intro i j q hi hj
    rw [out_at _ _ _ hpl] at hi hj
    split at hi <;> split at hj
    · exact h.inj i j q hi hj
    · have := h.inj _ _ q hi hj; omega
    · have := h.inj _ _ q hi hj; omega
    · have := h.inj _ _ q hi hj; omega
  · intro j q u hj hu
    rw [out_at _ _ _ hpl] at hj
    rw [out_at _ _ _ hpn] at hu
    rw [A.drop_F]
    split at hj
    · rename_i hlt
      rw [if_pos hlt] at hu
      rw [setF_other _ _ _ (fun e => by have := h.inj p j k hp (by rw [← e]; exact hj); omega)]
      exact h.hit j q u hj hu
    · rename_i hlt
      rw [if_neg hlt] at hu
      rw [setF_other _ _ _ (fun e => by have := h.inj p (j + 1) k hp (by rw [← e]; exact hj); omega)]
      exact h.hit (j + 1) q u hj hu
  · intro q hq
    rw [A.drop_F]
    by_cases e : q = k
    · rw [e, setF_same]
    · rw [setF_other _ _ _ e]
      refine h.miss q fun j hj => ?_
      by_cases hlt : j < p
      · exact hq j (by rw [out_at _ _ _ hpl, if_pos hlt]; exact hj)
      · have hne : j ≠ p := fun e' => e (by rw [e', hp] at hj; injection hj with hj; exact hj.symm)
        refine hq (j - 1) ?_
        rw [out_at _ _ _ hpl, if_neg (by omega), show j - 1 + 1 = j by omega]; exact hj
theorem Led.same {s : A} {ks : List ByteArray} {ns : List Int} (h : Led s ks ns) (k : ByteArray) (hn : ∀ j : Nat, ks[j]? ≠ Option.some k) : Led (s.drop k) ks ns := by
  have hm := h.miss k hn
  refine ⟨h.len, by rw [A.drop_keys, hm]; exact h.keys, h.inj, fun j q u hj hu => ?_, fun q hq => ?_⟩
  · rw [A.drop_F, setF_other _ _ _ (fun e => hn j (by rw [← e]; exact hj))]; exact h.hit j q u hj hu
  · rw [A.drop_F]
    by_cases e : q = k
    · rw [e, setF_same]
    · rw [setF_other _ _ _ e]; exact h.miss q hq
end Go.Proofs.Ytaflabjeddckeaa
