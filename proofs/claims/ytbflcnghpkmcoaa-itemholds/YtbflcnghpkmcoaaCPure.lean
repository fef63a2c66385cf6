/-
  A CHAIN AS PLAIN DATA: its buckets' numbers, its map; what Put, Drop and a step do to it; how keys stand in buckets.
-/
import Derived.Test.YtbflcnghpkmcoaaStr
namespace Go.Proofs.Ytbflcnghpkmcoaa
open Go.RowKit

structure A where
  n : Nat
  m : Nat
  mv : Nat
  keys : Int
  F : ByteArray → Option Int
def A0 : A := ⟨4, 0, 0, 0, fun _ => none⟩
def setF (F : ByteArray → Option Int) (k : ByteArray) (v : Option Int) : ByteArray → Option Int := fun q => if q = k then v else F q
theorem setF_same (F : ByteArray → Option Int) (k : ByteArray) (v : Option Int) : setF F k v k = v := if_pos rfl
theorem setF_other (F : ByteArray → Option Int) (k : ByteArray) (v : Option Int) {q : ByteArray} (h : q ≠ k) : setF F k v q = F q := if_neg h
def A.step (a : A) : A := if a.m = 0 then a else if a.mv + 1 = a.m then { a with m := 0, mv := 0 } else { a with mv := a.mv + 1 }
def A.grow (a : A) : A := if a.m = 0 ∧ 2 * (a.n : Int) < a.keys ∧ a.n < 4096 then { a with n := 2 * a.n, m := a.n, mv := 0 } else a
def A.set (a : A) (k : ByteArray) (v : Option Int) (q : Int) : A := { a with F := setF a.F k v, keys := q }
def A.put (a : A) (k : ByteArray) (v : Int) : A := if (a.F k).isSome then a.step.set k (some v) a.keys else (a.step.set k (some v) (a.keys + 1)).grow
def A.drop (a : A) (k : ByteArray) : A := if (a.F k).isSome then a.step.set k none (a.keys - 1) else a.step
/-- The numbers fit together. -/
def A.Ok (a : A) : Prop := 0 < a.n ∧ a.n ≤ 8192 ∧ (a.m = 0 ∧ a.mv = 0 ∨ 2 * a.m = a.n ∧ a.mv < a.m)
theorem A.step_F (a : A) : a.step.F = a.F := by unfold A.step; split; rfl; split <;> rfl
theorem A.step_keys (a : A) : a.step.keys = a.keys := by unfold A.step; split; rfl; split <;> rfl
theorem A.step_n (a : A) : a.step.n = a.n := by unfold A.step; split; rfl; split <;> rfl
theorem A.grow_F (a : A) : a.grow.F = a.F := by unfold A.grow; split <;> rfl
theorem A.grow_keys (a : A) : a.grow.keys = a.keys := by unfold A.grow; split <;> rfl
theorem A.put_F (a : A) (k : ByteArray) (v : Int) : (a.put k v).F = setF a.F k (some v) := by
  unfold A.put; split
  · show setF a.step.F _ _ = _; rw [A.step_F]
  · rw [A.grow_F]; show setF a.step.F _ _ = _; rw [A.step_F]
theorem A.drop_F (a : A) (k : ByteArray) : (a.drop k).F = setF a.F k none := by
  unfold A.drop; split
  · show setF a.step.F _ _ = _; rw [A.step_F]
  · rename_i h
    rw [A.step_F]
    funext q
    by_cases e : q = k
    · subst e; rw [setF_same]; simpa using h
    · rw [setF_other _ _ _ e]
theorem A.put_keys (a : A) (k : ByteArray) (v : Int) : (a.put k v).keys = if (a.F k).isSome then a.keys else a.keys + 1 := by
  unfold A.put; split
  · rfl
  · rw [A.grow_keys]; rfl
theorem A.drop_keys (a : A) (k : ByteArray) : (a.drop k).keys = if (a.F k).isSome then a.keys - 1 else a.keys := by
  unfold A.drop; split
  · rfl
  · rw [A.step_keys]

/-- A key's hash, as a plain number. -/
def hsn (k : ByteArray) : Nat := (hs k).toNat
theorem hsn_eq (k : ByteArray) : hs k = ((hsn k : Nat) : Int) := by have := hs_bd k; unfold hsn; omega
theorem hsn_lt (k : ByteArray) : hsn k < 4294967296 := by have := hs_bd k; unfold hsn; omega
abbrev KV := ByteArray × Int
/-- How many buckets a row has (true: the new ones). -/
def A.cnt (a : A) (r : Bool) : Nat := if r then a.n else a.m
/-- The row in which a key stands. -/
def A.row (a : A) (k : ByteArray) : Bool := !(decide (0 < a.m ∧ a.mv ≤ hsn k % a.m))
def A.at_ (a : A) (k : ByteArray) : Nat := hsn k % a.cnt (a.row k)
def upd2 (B : Bool → Nat → List KV) (r : Bool) (i : Nat) (l : List KV) : Bool → Nat → List KV := fun r' i' => if r' = r ∧ i' = i then l else B r' i'
theorem upd2_same (B : Bool → Nat → List KV) (r : Bool) (i : Nat) (l : List KV) : upd2 B r i l r i = l := if_pos ⟨rfl, rfl⟩
theorem upd2_other (B : Bool → Nat → List KV) (r : Bool) (i : Nat) (l : List KV) {r' : Bool} {i' : Nat} (h : ¬ (r' = r ∧ i' = i)) : upd2 B r i l r' i' = B r' i' := if_neg h
structure Has (a : A) (B : Bool → Nat → List KV) : Prop where
  ok : a.Ok
  pl : ∀ r i, i < a.cnt r → ∀ p ∈ B r i, a.row p.1 = r ∧ hsn p.1 % a.cnt r = i
  nd : ∀ r i, i < a.cnt r → ((B r i).map (·.1)).Nodup
  ff : ∀ k v, a.F k = some v ↔ ∃ r i, i < a.cnt r ∧ (k, v) ∈ B r i
theorem A.cnt_row {a : A} (h : a.Ok) (k : ByteArray) : 0 < a.cnt (a.row k) := by
  by_cases e : 0 < a.m ∧ a.mv ≤ hsn k % a.m
  · have : a.row k = false := by simp [A.row, e]
    rw [this]; exact e.1
  · have : a.row k = true := by simp only [A.row, e]; rfl
    rw [this]; exact h.1
theorem A.at_lt {a : A} (h : a.Ok) (k : ByteArray) : a.at_ k < a.cnt (a.row k) := Nat.mod_lt _ (A.cnt_row h k)
theorem Has.at_ {a : A} {B : Bool → Nat → List KV} (h : Has a B) (k : ByteArray) (v : Int) : a.F k = some v ↔ (k, v) ∈ B (a.row k) (a.at_ k) := by
  rw [h.ff]
  constructor
  · rintro ⟨r, i, hi, hm⟩
    obtain ⟨h1, h2⟩ := h.pl r i hi _ hm
    unfold A.at_
    have h1 : a.row k = r := h1
    have h2 : hsn k % a.cnt r = i := h2
    rw [h1, h2]; exact hm
  · intro hm; exact ⟨_, _, A.at_lt h.ok k, hm⟩
theorem Has.nokey {a : A} {B : Bool → Nat → List KV} (h : Has a B) (k : ByteArray) (hn : ∀ p ∈ B (a.row k) (a.at_ k), p.1 ≠ k) : a.F k = none := by
  cases e : a.F k with
  | none => rfl
  | some v => exact absurd rfl (hn _ ((h.at_ k v).1 e))
/-- One bucket told anew. -/
theorem Has.upd {a : A} {B : Bool → Nat → List KV} (h : Has a B) (k : ByteArray) (v : Option Int) (q : Int) (l : List KV)
    (h1 : ∀ p ∈ l, p.1 ≠ k → p ∈ B (a.row k) (a.at_ k)) (h2 : ∀ p ∈ B (a.row k) (a.at_ k), p.1 ≠ k → p ∈ l) (hn : (l.map (·.1)).Nodup) (hk : ∀ u, v = some u ↔ (k, u) ∈ l) : Has (a.set k v q) (upd2 B (a.row k) (a.at_ k) l) := by
  have hat := A.at_lt h.ok k
  refine ⟨h.ok, fun r i hi p hp => ?_, fun r i hi => ?_, fun k' u => ?_⟩
  · show a.row p.1 = r ∧ hsn p.1 % a.cnt r = i
    by_cases e : r = a.row k ∧ i = a.at_ k
    · obtain ⟨rfl, rfl⟩ := e
      rw [upd2_same] at hp
      by_cases ek : p.1 = k
      · rw [ek]; exact ⟨rfl, rfl⟩
      · exact h.pl _ _ hat p (h1 p hp ek)
    · rw [upd2_other _ _ _ _ e] at hp; exact h.pl r i hi p hp
  · by_cases e : r = a.row k ∧ i = a.at_ k
    · obtain ⟨rfl, rfl⟩ := e
      rw [upd2_same]; exact hn
    · rw [upd2_other _ _ _ _ e]; exact h.nd r i hi
  · show setF a.F k v k' = some u ↔ _
    by_cases ek : k' = k
    · subst ek
      rw [setF_same, hk]
      constructor
      · intro hm; exact ⟨a.row k', a.at_ k', hat, by rw [upd2_same]; exact hm⟩
      · rintro ⟨r, i, hi, hm⟩
        by_cases e : r = a.row k' ∧ i = a.at_ k'
        · obtain ⟨rfl, rfl⟩ := e
          rw [upd2_same] at hm; exact hm
        · rw [upd2_other _ _ _ _ e] at hm
          obtain ⟨h3, h4⟩ := h.pl r i hi _ hm
          have h3 : a.row k' = r := h3
          have h4 : hsn k' % a.cnt r = i := h4
          subst h3
          exact absurd ⟨rfl, h4.symm⟩ e
    · rw [setF_other _ _ _ ek, h.ff]
      constructor
      · rintro ⟨r, i, hi, hm⟩
        refine ⟨r, i, hi, ?_⟩
        by_cases e : r = a.row k ∧ i = a.at_ k
        · obtain ⟨rfl, rfl⟩ := e
          rw [upd2_same]; exact h2 _ hm ek
        · rw [upd2_other _ _ _ _ e]; exact hm
      · rintro ⟨r, i, hi, hm⟩
        refine ⟨r, i, hi, ?_⟩
        by_cases e : r = a.row k ∧ i = a.at_ k
        · obtain ⟨rfl, rfl⟩ := e
          rw [upd2_same] at hm; exact h1 _ hm ek
        · rw [upd2_other _ _ _ _ e] at hm; exact hm
/-- In a bucket a key stands once. -/
theorem nd_mid {pre post : List KV} {k : ByteArray} {v : Int} (h : ((pre ++ (k, v) :: post).map (·.1)).Nodup) : (∀ p ∈ pre, p.1 ≠ k) ∧ (∀ p ∈ post, p.1 ≠ k) ∧ ((pre ++ post).map (·.1)).Nodup := by
  rw [List.map_append, List.map_cons] at h
  have h' := List.nodup_append.1 h
  have h3 := List.nodup_cons.1 h'.2.1
  refine ⟨fun p hp e => ?_, fun p hp e => ?_, ?_⟩
  · exact h'.2.2 _ (List.mem_map_of_mem hp) _ (List.mem_cons_self) e
  · have hx := List.mem_map_of_mem (f := (·.1)) hp
    rw [show p.1 = k from e] at hx
    exact h3.1 hx
  · rw [List.map_append]
    exact List.nodup_append.2 ⟨h'.1, h3.2, fun x hx y hy => h'.2.2 x hx y (List.mem_cons_of_mem _ hy)⟩
theorem Has.setOld {a : A} {B : Bool → Nat → List KV} (h : Has a B) (k : ByteArray) (u v : Int) (q : Int) (pre post : List KV) (e : B (a.row k) (a.at_ k) = pre ++ (k, u) :: post) :
    Has (a.set k (some v) q) (upd2 B (a.row k) (a.at_ k) (pre ++ (k, v) :: post)) := by
  have hn := h.nd _ _ (A.at_lt h.ok k)
  rw [e] at hn
  obtain ⟨n1, n2, n3⟩ := nd_mid hn
  refine h.upd k _ q _ (fun p hp hk => ?_) (fun p hp hk => ?_) ?_ (fun u' => ?_)
  · rw [e]; simp only [List.mem_append, List.mem_cons] at hp ⊢
    rcases hp with hp | rfl | hp
    · exact .inl hp
    · exact absurd rfl hk
    · exact .inr (.inr hp)
  · rw [e] at hp; simp only [List.mem_append, List.mem_cons] at hp ⊢
    rcases hp with hp | rfl | hp
    · exact .inl hp
    · exact absurd rfl hk
    · exact .inr (.inr hp)
  · have : ((pre ++ (k, v) :: post).map (·.1)) = ((pre ++ (k, u) :: post).map (·.1)) := by simp
    rw [this]; exact hn
  · constructor
    · intro e; injection e with e; subst e; simp
    · intro hm; simp only [List.mem_append, List.mem_cons] at hm
      rcases hm with hm | hm | hm
      · exact absurd rfl (n1 _ hm)
      · injection hm with _ hm; rw [hm]
      · exact absurd rfl (n2 _ hm)
theorem Has.setNew {a : A} {B : Bool → Nat → List KV} (h : Has a B) (k : ByteArray) (v : Int) (q : Int) (hn : ∀ p ∈ B (a.row k) (a.at_ k), p.1 ≠ k) :
    Has (a.set k (some v) q) (upd2 B (a.row k) (a.at_ k) (B (a.row k) (a.at_ k) ++ [(k, v)])) := by
  have hnd := h.nd _ _ (A.at_lt h.ok k)
  refine h.upd k _ q _ (fun p hp hk => ?_) (fun p hp hk => ?_) ?_ (fun u' => ?_)
  · simp only [List.mem_append, List.mem_singleton] at hp
    rcases hp with hp | rfl
    · exact hp
    · exact absurd rfl hk
  · simp only [List.mem_append]; exact .inl hp
  · rw [List.map_append]
    refine List.nodup_append.2 ⟨hnd, by simp, fun x hx y hy => ?_⟩
    obtain ⟨p, hp, rfl⟩ := List.mem_map.1 hx
    simp at hy; subst hy; exact hn p hp
  · constructor
    · intro e; injection e with e; subst e; simp
    · intro hm; simp only [List.mem_append, List.mem_singleton] at hm
      rcases hm with hm | hm
      · exact absurd rfl (hn _ hm)
      · injection hm with _ hm; rw [hm]
theorem Has.cut {a : A} {B : Bool → Nat → List KV} (h : Has a B) (k : ByteArray) (u : Int) (q : Int) (pre post : List KV) (e : B (a.row k) (a.at_ k) = pre ++ (k, u) :: post) :
    Has (a.set k none q) (upd2 B (a.row k) (a.at_ k) (pre ++ post)) := by
  have hn := h.nd _ _ (A.at_lt h.ok k)
  rw [e] at hn
  obtain ⟨n1, n2, n3⟩ := nd_mid hn
  refine h.upd k _ q _ (fun p hp hk => ?_) (fun p hp hk => ?_) n3 (fun u' => ?_)
  · rw [e]; simp only [List.mem_append, List.mem_cons] at hp ⊢
    rcases hp with hp | hp
    · exact .inl hp
    · exact .inr (.inr hp)
  · rw [e] at hp; simp only [List.mem_append, List.mem_cons] at hp ⊢
    rcases hp with hp | rfl | hp
    · exact .inl hp
    · exact absurd rfl hk
    · exact .inr hp
  · constructor
    · intro e; cases e
    · intro hm; simp only [List.mem_append] at hm
      rcases hm with hm | hm
      · exact absurd rfl (n1 _ hm)
      · exact absurd rfl (n2 _ hm)
/-- What is in the next old bucket goes to the new ones. -/
theorem Has.moved {a : A} {B : Bool → Nat → List KV} (h : Has a B) (hm : a.m ≠ 0) (N : Nat → List KV) (hN : ∀ j, j < a.n → ∀ p, p ∈ N j ↔ p ∈ B true j ∨ (p ∈ B false a.mv ∧ hsn p.1 % a.n = j)) (hnd : ∀ j, j < a.n → ((N j).map (·.1)).Nodup) :
    Has a.step (fun r j => if r then N j else if j = a.mv then [] else B false j) := by
  obtain ⟨o1, o2, o3⟩ := h.ok
  have o4 : 2 * a.m = a.n ∧ a.mv < a.m := by omega
  have okS : a.step.Ok := by
    unfold A.step A.Ok
    rw [if_neg hm]
    split
    · exact ⟨o1, o2, .inl ⟨rfl, rfl⟩⟩
    · exact ⟨o1, o2, .inr ⟨o4.1, by show a.mv + 1 < a.m; omega⟩⟩
  have hcn : a.step.cnt true = a.n := a.step_n
  have hold : ∀ j, j < a.step.cnt false → a.step.cnt false = a.m ∧ a.step.mv = a.mv + 1 ∧ a.step.m = a.m := by
    intro j hj
    by_cases e : a.mv + 1 = a.m
    · have es : a.step = { a with m := 0, mv := 0 } := by unfold A.step; rw [if_neg hm, if_pos e]
      rw [es] at hj
      exact absurd hj (Nat.not_lt_zero _)
    · have es : a.step = { a with mv := a.mv + 1 } := by unfold A.step; rw [if_neg hm, if_neg e]
      rw [es]; exact ⟨rfl, rfl, rfl⟩
  have hrow : ∀ k, a.step.row k = if a.row k = false ∧ hsn k % a.m ≠ a.mv then false else true := by
    intro k
    have hlt : hsn k % a.m < a.m := Nat.mod_lt _ (by omega)
    unfold A.row A.step
    rw [if_neg hm]
    split
    · rename_i e
      by_cases c : a.mv ≤ hsn k % a.m
      · have c' : hsn k % a.m = a.mv := by omega
        simp [c']
      · simp [c]
    · by_cases c : a.mv ≤ hsn k % a.m
      · by_cases c' : hsn k % a.m = a.mv
        · simp [c']
        · have c2 : a.mv + 1 ≤ hsn k % a.m := by omega
          simp [c, c', c2, Nat.pos_of_ne_zero hm]
      · have c2 : ¬ (a.mv + 1 ≤ hsn k % a.m) := by omega
        simp [c, c2]
  have oldIn : ∀ p j, j < a.m → p ∈ B false j → a.row p.1 = false ∧ hsn p.1 % a.m = j := fun p j hj hp => h.pl false j hj p hp
  refine ⟨okS, fun r i hi p hp => ?_, fun r i hi => ?_, fun k v => ?_⟩
  · cases r with
    | true =>
      rw [hcn] at hi ⊢
      simp only [if_true] at hp
      rcases (hN i hi p).1 hp with hp | ⟨hp, he⟩
      · obtain ⟨q1, q2⟩ := h.pl true i hi p hp
        exact ⟨by rw [hrow, if_neg (by rw [q1]; simp)], q2⟩
      · obtain ⟨q1, q2⟩ := oldIn p a.mv o4.2 hp
        exact ⟨by rw [hrow, if_neg (by simp [q2])], he⟩
    | false =>
      obtain ⟨c1, c2, c3⟩ := hold i hi
      simp only [Bool.false_eq_true, if_false] at hp
      rw [c1] at hi ⊢
      split at hp
      · cases hp
      · rename_i e
        obtain ⟨q1, q2⟩ := oldIn p i hi hp
        exact ⟨by rw [hrow, if_pos ⟨q1, by rw [q2]; exact e⟩], q2⟩
  · cases r with
    | true => rw [hcn] at hi; simpa using hnd i hi
    | false =>
      obtain ⟨c1, c2, c3⟩ := hold i hi
      rw [c1] at hi
      simp only [Bool.false_eq_true, if_false]
      split
      · simp
      · exact h.nd false i hi
  · rw [A.step_F, h.ff]
    constructor
    · rintro ⟨r, i, hi, hp⟩
      cases r with
      | true =>
        exact ⟨true, i, by rw [hcn]; exact hi, by simp only [if_true]; exact (hN i hi _).2 (.inl hp)⟩
      | false =>
        by_cases e : i = a.mv
        · subst e
          refine ⟨true, hsn k % a.n, by rw [hcn]; exact Nat.mod_lt _ o1, ?_⟩
          simp only [if_true]
          exact (hN _ (Nat.mod_lt _ o1) _).2 (.inr ⟨hp, rfl⟩)
        · obtain ⟨q1, q2⟩ := oldIn _ i hi hp
          have hi' : i < a.m := hi
          have q2 : hsn k % a.m = i := q2
          have hmv : a.mv ≤ i := by
            have q1 : a.row k = false := q1
            unfold A.row at q1
            simp at q1
            omega
          have ec : a.step.cnt false = a.m := by
            have es : a.step = { a with mv := a.mv + 1 } := by unfold A.step; rw [if_neg hm, if_neg (by omega)]
            rw [es]; rfl
          refine ⟨false, i, by rw [ec]; exact hi', ?_⟩
          simp only [Bool.false_eq_true, if_false, if_neg e]; exact hp
    · rintro ⟨r, i, hi, hp⟩
      cases r with
      | true =>
        rw [hcn] at hi
        simp only [if_true] at hp
        rcases (hN i hi _).1 hp with hp | ⟨hp, he⟩
        · exact ⟨true, i, hi, hp⟩
        · exact ⟨false, a.mv, o4.2, hp⟩
      | false =>
        obtain ⟨c1, c2, c3⟩ := hold i hi
        rw [c1] at hi
        simp only [Bool.false_eq_true, if_false] at hp
        split at hp
        · cases hp
        · exact ⟨false, i, hi, hp⟩
theorem Has.rest {a : A} {B : Bool → Nat → List KV} (h : Has a B) (hm : a.m = 0) : Has a.step B := by
  have : a.step = a := by unfold A.step; rw [if_pos hm]
  rw [this]; exact h
/-- Twice as many buckets. -/
theorem Has.grown {a : A} {B : Bool → Nat → List KV} (h : Has a B) (hm : a.m = 0) (hn : a.n < 4096) : Has { a with n := 2 * a.n, m := a.n, mv := 0 } (fun r j => if r then [] else B true j) := by
  obtain ⟨o1, o2, o3⟩ := h.ok
  refine ⟨⟨by show 0 < 2 * a.n; omega, by show 2 * a.n ≤ 8192; omega, .inr ⟨rfl, o1⟩⟩, fun r i hi p hp => ?_, fun r i hi => ?_, fun k v => ?_⟩
  · cases r with
    | true => simp at hp
    | false =>
      simp only [Bool.false_eq_true, if_false] at hp
      obtain ⟨q1, q2⟩ := h.pl true i hi p hp
      exact ⟨by simp [A.row, o1], q2⟩
  · cases r with
    | true => simp
    | false => simp only [Bool.false_eq_true, if_false]; exact h.nd true i hi
  · show a.F k = some v ↔ _
    rw [h.ff]
    constructor
    · rintro ⟨r, i, hi, hp⟩
      cases r with
      | true => exact ⟨false, i, hi, by simpa using hp⟩
      | false =>
        have hi : i < a.m := hi
        omega
    · rintro ⟨r, i, hi, hp⟩
      cases r with
      | true => simp at hp
      | false => exact ⟨true, i, hi, by simpa using hp⟩
theorem Has.new : Has A0 (fun _ _ => []) := by
  refine ⟨⟨by decide, by decide, .inl ⟨rfl, rfl⟩⟩, fun r i hi p hp => by simp at hp, fun r i hi => by simp, fun k v => ⟨fun h => (by cases h), ?_⟩⟩
  rintro ⟨r, i, _, h⟩
  simp at h
theorem Has.congr {a : A} {B B' : Bool → Nat → List KV} (h : Has a B) (e : ∀ r i, i < a.cnt r → B' r i = B r i) : Has a B' :=
  ⟨h.ok, fun r i hi p hp => h.pl r i hi p (by rw [← e r i hi]; exact hp), fun r i hi => by rw [e r i hi]; exact h.nd r i hi, fun k v => by
    rw [h.ff]
    exact ⟨fun ⟨r, i, hi, hp⟩ => ⟨r, i, hi, by rw [e r i hi]; exact hp⟩, fun ⟨r, i, hi, hp⟩ => ⟨r, i, hi, by rw [← e r i hi]; exact hp⟩⟩⟩
end Go.Proofs.Ytbflcnghpkmcoaa
