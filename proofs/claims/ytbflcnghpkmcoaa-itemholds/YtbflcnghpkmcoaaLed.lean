/-
  A STORE HELD AGAINST THREE LISTS: keys, what was put last, what is pinned.
-/
import Derived.Test.YtbflcnghpkmcoaaItem
namespace Go.Proofs.Ytbflcnghpkmcoaa

/-- What Put does, told plainly. -/
structure PutS (z : Sp) (key d : ByteArray) (pin : Bool) (r : List ByteArray × Nat × Sp) : Prop where
  ok : OkSp r.2.2
  mem : ∀ i ∈ r.2.2.l, (i.key = key ∧ i.d = d ∧ i.pin = pin ∧ r.2.1 = 0) ∨ (i ∈ z.l ∧ i.key ≠ key)
  keep : ∀ i ∈ z.l, i.key ≠ key → i.pin = true → i ∈ r.2.2.l
  yes : r.2.1 = 0 → ∃ i ∈ r.2.2.l, i.key = key ∧ i.d = d ∧ i.pin = pin
  no : r.2.1 ≠ 0 → ∀ i ∈ r.2.2.l, i.key ≠ key
  went : ∀ g ∈ r.1, g ≠ key ∧ ∃ v ∈ z.l, v.key = g ∧ v.pin = false
  few : r.1.length ≤ 1
  err : r.2.1 ≤ 6
theorem put_spec {z : Sp} (h : OkSp z) (key d : ByteArray) (pin : Bool) : PutS z key d pin (z.put key d pin) := by
  have hok := h.put key d pin
  have hno := z.drop_no key
  have hm : ∀ i, i ∈ (z.drop key).l ↔ i ∈ z.l ∧ i.key ≠ key := fun i => by rw [Sp.drop_l]; exact mem_but
  have hd := h.drop key
  unfold Sp.put at hok ⊢
  obtain ⟨z1, hz1⟩ : ∃ z1, z1 = z.drop key := ⟨_, rfl⟩
  rw [← hz1] at hok hno hm hd ⊢
  clear hz1
  unfold Sp.put1 at hok ⊢
  cases hc : clsOf z1.s (key ++ d).size with
  | none =>
    rw [hc] at hok
    exact ⟨hok, fun i hi => .inr ((hm i).1 hi), fun i hi hk _ => (hm i).2 ⟨hi, hk⟩, fun e => (by cases e), fun _ => hno, (fun _ hg => by cases hg), by simp, by simp⟩
  | some c =>
    rw [hc] at hok
    simp only at hok ⊢
    by_cases h6 : (z1.s.alloc (key ++ d)).1.2.2 = 6
    · rw [if_pos h6] at hok ⊢
      cases hv : z1.vic c with
      | none =>
        rw [hv] at hok
        exact ⟨hok, fun i hi => .inr ((hm i).1 hi), fun i hi hk _ => (hm i).2 ⟨hi, hk⟩, fun e => (by cases e), fun _ => hno, (fun _ hg => by cases hg), by simp, by simp⟩
      | some v =>
        rw [hv] at hok
        obtain ⟨v1, v2, v3⟩ := vic_some hv
        refine ⟨hok, fun i hi => ?_, fun i hi hk hp => ?_, fun _ => ⟨_, List.mem_cons_self, rfl, rfl, rfl⟩, fun e => absurd rfl e, fun g hg => ?_, by simp, by simp⟩
        · rcases List.mem_cons.1 hi with rfl | hi
          · exact .inl ⟨rfl, rfl, rfl, rfl⟩
          · exact .inr ((hm i).1 (mem_but.1 hi).1)
        · refine List.mem_cons_of_mem _ (mem_but.2 ⟨(hm i).2 ⟨hi, hk⟩, fun e => ?_⟩)
          have e1 := fnd_mk hd.ndk ((hm i).2 ⟨hi, hk⟩)
          rw [e, fnd_mk hd.ndk v1] at e1
          injection e1 with e1
          rw [e1, hp] at v3; cases v3
        · rw [List.mem_singleton.1 hg]
          exact ⟨hno v v1, v, ((hm v).1 v1).1, rfl, v3⟩
    · rw [if_neg h6] at hok ⊢
      refine ⟨hok, fun i hi => ?_, fun i hi hk _ => List.mem_cons_of_mem _ ((hm i).2 ⟨hi, hk⟩), fun _ => ⟨_, List.mem_cons_self, rfl, rfl, rfl⟩, fun e => absurd rfl e, (fun _ hg => by cases hg), by simp, by simp⟩
      rcases List.mem_cons.1 hi with rfl | hi
      · exact .inl ⟨rfl, rfl, rfl, rfl⟩
      · exact .inr ((hm i).1 hi)
/-- The three lists tell of the store. -/
structure Led (z : Sp) (ks ds : List ByteArray) (ps : List Bool) : Prop where
  ok : OkSp z
  l1 : ds.length = ks.length
  l2 : ps.length = ks.length
  nd : ks.Nodup
  al : ∀ i ∈ z.l, ∃ j : Nat, ks[j]? = some i.key ∧ ds[j]? = some i.d
  pn : ∀ (j : Nat) k, ks[j]? = some k → ps[j]? = some true → ∃ i ∈ z.l, i.key = k ∧ i.pin = true
theorem nd_at {ks : List ByteArray} (h : ks.Nodup) {i j : Nat} {k : ByteArray} (h1 : ks[i]? = some k) (h2 : ks[j]? = some k) : i = j := by
  exact (List.getElem?_inj (List.getElem?_eq_some_iff.1 h1).1 h).1 (h1.trans h2.symm)
theorem Led.new {z : Sp} (h : OkSp z) (hl : z.l = []) : Led z [] [] [] :=
  ⟨h, rfl, rfl, List.nodup_nil, (fun i hi => by rw [hl] at hi; cases hi), (fun j k h1 _ => by simp at h1)⟩
/-- What the last loop looks at. -/
theorem Led.look {z : Sp} {ks ds : List ByteArray} {ps : List Bool} (h : Led z ks ds ps) {j : Nat} {k d : ByteArray} {p : Bool} (h1 : ks[j]? = some k) (h2 : ds[j]? = some d) (h3 : ps[j]? = some p) :
    (fnd z.l k = none ∧ p = false) ∨ ∃ i, fnd z.l k = some i ∧ i.d = d := by
  cases e : fnd z.l k with
  | none =>
    refine .inl ⟨rfl, ?_⟩
    cases p with
    | false => rfl
    | true =>
      obtain ⟨i, hi, hk, _⟩ := h.pn j k h1 h3
      exact absurd hk (fnd_none e i hi)
  | some i =>
    obtain ⟨hi, hk⟩ := fnd_some e
    obtain ⟨j', q1, q2⟩ := h.al i hi
    rw [hk] at q1
    have := nd_at h.nd h1 q1
    subst this
    rw [h2] at q2
    injection q2 with q2
    exact .inr ⟨i, rfl, q2.symm⟩
theorem Led.grow {z : Sp} {ks ds : List ByteArray} {ps : List Bool} (h : Led z ks ds ps) {key : ByteArray} (hk : ∀ j : Nat, ks[j]? ≠ some key) : Led z (ks ++ [key]) (ds ++ [⟨#[]⟩]) (ps ++ [false]) := by
  refine ⟨h.ok, by simp [h.l1], by simp [h.l2], ?_, fun i hi => ?_, fun j k h1 h2 => ?_⟩
  · refine List.nodup_append.2 ⟨h.nd, by simp, fun x hx y hy => ?_⟩
    simp at hy; subst hy
    intro e; subst e
    obtain ⟨j, hj⟩ := List.mem_iff_getElem?.1 hx
    exact hk j hj
  · obtain ⟨j, q1, q2⟩ := h.al i hi
    exact ⟨j, by rw [List.getElem?_append_left (List.getElem?_eq_some_iff.1 q1).1]; exact q1, by rw [List.getElem?_append_left (List.getElem?_eq_some_iff.1 q2).1]; exact q2⟩
  · by_cases e : j < ks.length
    · rw [List.getElem?_append_left e] at h1
      rw [List.getElem?_append_left (by rw [h.l2]; exact e)] at h2
      exact h.pn j k h1 h2
    · rw [List.getElem?_append_right (by rw [h.l2]; omega)] at h2
      have : j - ps.length = 0 ∨ j - ps.length ≠ 0 := by omega
      rcases this with e2 | e2
      · rw [e2] at h2; simp at h2
      · rw [List.getElem?_eq_none (by simp; omega)] at h2; cases h2
/-- An item that another store has, told by the lists. -/
theorem Led.turn {z z' : Sp} {ks ds : List ByteArray} {ps : List Bool} (h : Led z ks ds ps) {key : ByteArray} {a : Nat} (hk : ks[a]? = some key) (hok : OkSp z') (D : ByteArray) (P : Bool)
    (h1 : ∀ i ∈ z'.l, (i.key = key ∧ i.d = D) ∨ (i ∈ z.l ∧ i.key ≠ key)) (h2 : ∀ i ∈ z.l, i.key ≠ key → i.pin = true → i ∈ z'.l) (h3 : P = true → ∃ i ∈ z'.l, i.key = key ∧ i.pin = true) : Led z' ks (ds.set a D) (ps.set a P) := by
  have ha := (List.getElem?_eq_some_iff.1 hk).1
  refine ⟨hok, by rw [List.length_set]; exact h.l1, by rw [List.length_set]; exact h.l2, h.nd, fun i hi => ?_, fun j k q1 q2 => ?_⟩
  · rcases h1 i hi with ⟨e1, e2⟩ | ⟨e1, e2⟩
    · exact ⟨a, by rw [e1]; exact hk, by rw [List.getElem?_set_self (by rw [h.l1]; exact ha), e2]⟩
    · obtain ⟨j, r1, r2⟩ := h.al i e1
      have : a ≠ j := fun e => by subst e; rw [hk] at r1; injection r1 with r1; exact e2 r1.symm
      exact ⟨j, r1, by rw [List.getElem?_set_ne this]; exact r2⟩
  · by_cases e : a = j
    · subst e
      rw [hk] at q1
      injection q1 with q1
      subst q1
      rw [List.getElem?_set_self (by rw [h.l2]; exact ha)] at q2
      injection q2 with q2
      exact h3 q2
    · rw [List.getElem?_set_ne e] at q2
      obtain ⟨i, r1, r2, r3⟩ := h.pn j k q1 q2
      refine ⟨i, h2 i r1 (fun x => e ?_) r3, r2, r3⟩
      rw [r2] at x
      subst x
      exact nd_at h.nd hk q1
theorem Led.put {z : Sp} {ks ds : List ByteArray} {ps : List Bool} (h : Led z ks ds ps) {key : ByteArray} {a : Nat} (hk : ks[a]? = some key) {d : ByteArray} {pin : Bool} {r : List ByteArray × Nat × Sp} (hr : PutS z key d pin r) (ok : Bool) (hb : ok = decide (r.2.1 = 0)) : Led r.2.2 ks (ds.set a d) (ps.set a (pin && ok)) := by
  refine h.turn hk hr.ok d _ (fun i hi => ?_) hr.keep (fun hp => ?_)
  · rcases hr.mem i hi with ⟨e1, e2, _⟩ | e
    · exact .inl ⟨e1, e2⟩
    · exact .inr e
  · rw [Bool.and_eq_true, hb, decide_eq_true_eq] at hp
    obtain ⟨i, hi, e1, _, e3⟩ := hr.yes hp.2
    exact ⟨i, hi, e1, by rw [e3]; exact hp.1⟩
/-- Who went was not pinned, and was not the key itself. -/
theorem Led.went {z : Sp} {ks ds : List ByteArray} {ps : List Bool} (h : Led z ks ds ps) {key : ByteArray} {a : Nat} (hk : ks[a]? = some key) {d : ByteArray} {pin : Bool} {r : List ByteArray × Nat × Sp} (hr : PutS z key d pin r) {g : ByteArray} (hg : g ∈ r.1) {j : Nat} (hj : ks[j]? = some g) {p : Bool} (hp : ps[j]? = some p) : p = false ∧ j ≠ a := by
  obtain ⟨h1, v, h2, h3, h4⟩ := hr.went g hg
  refine ⟨?_, fun e => ?_⟩
  · cases p with
    | false => rfl
    | true =>
      obtain ⟨i, q1, q2, q3⟩ := h.pn j g hj hp
      have e1 := fnd_mk h.ok.ndk q1
      rw [q2, ← h3, fnd_mk h.ok.ndk h2] at e1
      injection e1 with e1
      rw [e1, q3] at h4; cases h4
  · subst e
    rw [hk] at hj; injection hj with hj
    exact h1 hj.symm
theorem Led.peek {z : Sp} {key d : ByteArray} {pin : Bool} {r : List ByteArray × Nat × Sp} (hr : PutS z key d pin r) : (fnd r.2.2.l key = none ∧ r.2.1 ≠ 0) ∨ ∃ i, fnd r.2.2.l key = some i ∧ i.d = d ∧ r.2.1 = 0 := by
  by_cases e : r.2.1 = 0
  · obtain ⟨i, hi, e1, e2, _⟩ := hr.yes e
    exact .inr ⟨i, by rw [← e1]; exact fnd_mk hr.ok.ndk hi, e2, e⟩
  · exact .inl ⟨fnd_no (hr.no e), e⟩
theorem set_same {α : Type} {l : List α} {a : Nat} {x : α} (h : l[a]? = some x) : l.set a x = l := by
  obtain ⟨h1, h2⟩ := List.getElem?_eq_some_iff.1 h
  rw [← h2]; exact List.set_getElem_self h1
theorem Led.drop {z : Sp} {ks ds : List ByteArray} {ps : List Bool} (h : Led z ks ds ps) {key : ByteArray} {a : Nat} (hk : ks[a]? = some key) : Led (z.drop key) ks ds (ps.set a false) := by
  have ha := (List.getElem?_eq_some_iff.1 hk).1
  obtain ⟨D, hD⟩ : ∃ D, ds[a]? = some D := ⟨_, List.getElem?_eq_getElem (by rw [h.l1]; exact ha)⟩
  have := h.turn hk (h.ok.drop key) D false (fun i hi => .inr (by rw [Sp.drop_l] at hi; exact mem_but.1 hi)) (fun i hi hn _ => by rw [Sp.drop_l]; exact mem_but.2 ⟨hi, hn⟩) (fun e => by cases e)
  rw [set_same hD] at this
  exact this
theorem Led.pin {z : Sp} {ks ds : List ByteArray} {ps : List Bool} (h : Led z ks ds ps) {key : ByteArray} {a : Nat} (hk : ks[a]? = some key) (b : Bool) : ((fnd z.l key).isSome = true → Led (z.pin key b) ks ds (ps.set a b)) ∧ ((fnd z.l key).isSome = false → Led (z.pin key b) ks ds ps) := by
  have al : ∀ i ∈ (z.pin key b).l, ∃ j : Nat, ks[j]? = some i.key ∧ ds[j]? = some i.d := fun i hi => by
    obtain ⟨i', hi', rfl⟩ := List.mem_map.1 hi
    rw [It.pinned_key, It.pinned_d]; exact h.al i' hi'
  have pn : ∀ (j : Nat) k, ks[j]? = some k → k ≠ key → ps[j]? = some true → ∃ i ∈ (z.pin key b).l, i.key = k ∧ i.pin = true := fun j k q1 q2 q3 => by
    obtain ⟨i, r1, r2, r3⟩ := h.pn j k q1 q3
    refine ⟨i.pinned key b, List.mem_map_of_mem r1, by rw [It.pinned_key]; exact r2, ?_⟩
    unfold It.pinned
    rw [if_neg (by rw [r2]; exact q2)]; exact r3
  have ha := (List.getElem?_eq_some_iff.1 hk).1
  refine ⟨fun hs => ⟨h.ok.pin key b, h.l1, by rw [List.length_set]; exact h.l2, h.nd, al, fun j k q1 q2 => ?_⟩, fun hs => ⟨h.ok.pin key b, h.l1, h.l2, h.nd, al, fun j k q1 q2 => ?_⟩⟩
  · by_cases e : a = j
    · subst e
      rw [hk] at q1
      injection q1 with q1
      subst q1
      rw [List.getElem?_set_self (by rw [h.l2]; exact ha)] at q2
      injection q2 with q2
      obtain ⟨i, hi⟩ := Option.isSome_iff_exists.1 hs
      obtain ⟨r1, r2⟩ := fnd_some hi
      refine ⟨i.pinned key b, List.mem_map_of_mem r1, by rw [It.pinned_key]; exact r2, ?_⟩
      unfold It.pinned
      rw [if_pos r2]; exact q2
    · rw [List.getElem?_set_ne e] at q2
      exact pn j k q1 (fun x => e (by subst x; exact nd_at h.nd hk q1)) q2
  · by_cases e : k = key
    · subst e
      obtain ⟨i, r1, r2, _⟩ := h.pn j k q1 q2
      rw [← r2, fnd_mk h.ok.ndk r1] at hs; cases hs
    · exact pn j k q1 e q2
end Go.Proofs.Ytbflcnghpkmcoaa
