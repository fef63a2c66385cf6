/-
  A CHAIN AS PLAIN DATA: its buckets' numbers, its map; what Put, Drop and a step do to it; how keys stand in buckets.
-/
import Derived.Test.YtfinaichajbnkaaGreatDoorStr
import Derived.Test.YtfinaichajbnkaaGreatDoorTurn
import Derived.Test.YtfinaichajbnkaaGreatDoorSlab
import Derived.Deep.RegionHeld3
import Derived.Deep.RegionWith
import Derived.WalkMore
namespace Go.Proofs.YtfinaichajbnkaaGreatDoor
open Go.RowKit

structure A where
  n : Nat
  m : Nat
  mv : Nat
  keys : Int
  F : ByteArray → Option Int
def A0 : A := ⟨4, 0, 0, 0, fun _ => none⟩
def setF (F : ByteArray → Option Int) (k : ByteArray) (v : Option Int) : ByteArray → Option Int := fun q => if q = k then v else F q
theorem setF_same (F : ByteArray → Option Int) (k : ByteArray) (v : Option Int) : setF F k v k = v := if_pos rfl
theorem setF_other (F : ByteArray → Option Int) (k : ByteArray) (v : Option Int) {q : ByteArray} (h : q ≠ k) : setF F k v q = F q := if_neg h
def A.step (a : A) : A := if a.m = 0 then a else if a.mv + 1 = a.m then { a with m := 0, mv := 0 } else { a with mv := a.mv + 1 }
def A.grow (a : A) : A := if a.m = 0 ∧ 2 * (a.n : Int) < a.keys ∧ a.n < 4096 then { a with n := 2 * a.n, m := a.n, mv := 0 } else a
def A.set (a : A) (k : ByteArray) (v : Option Int) (q : Int) : A := { a with F := setF a.F k v, keys := q }
def A.put (a : A) (k : ByteArray) (v : Int) : A := if (a.F k).isSome then a.step.set k (some v) a.keys else (a.step.set k (some v) (a.keys + 1)).grow
def A.drop (a : A) (k : ByteArray) : A := if (a.F k).isSome then a.step.set k none (a.keys - 1) else a.step
/-- The numbers fit together. -/
def A.Ok (a : A) : Prop := 0 < a.n ∧ a.n ≤ 8192 ∧ (a.m = 0 ∧ a.mv = 0 ∨ 2 * a.m = a.n ∧ a.mv < a.m)
theorem A.step_F (a : A) : a.step.F = a.F := by unfold A.step; split; rfl; split <;> rfl
theorem A.step_keys (a : A) : a.step.keys = a.keys := by unfold A.step; split; rfl; split <;> rfl
theorem A.step_n (a : A) : a.step.n = a.n := by unfold A.step; split; rfl; split <;> rfl
theorem A.grow_F (a : A) : a.grow.F = a.F := by unfold A.grow; split <;> rfl
theorem A.grow_keys (a : A) : a.grow.keys = a.keys := by unfold A.grow; split <;> rfl
theorem A.put_F (a : A) (k : ByteArray) (v : Int) : (a.put k v).F = setF a.F k (some v) := by
  unfold A.put; split
  · show setF a.step.F _ _ = _; rw [A.step_F]
  · rw [A.grow_F]; show setF a.step.F _ _ = _; rw [A.step_F]
theorem A.drop_F (a : A) (k : ByteArray) : (a.drop k).F = setF a.F k none := by
  unfold A.drop; split
  · show setF a.step.F _ _ = _; rw [A.step_F]
  · rename_i h
    rw [A.step_F]
    funext q
    by_cases e : q = k
    · subst e; rw [setF_same]; simpa using h
    · rw [setF_other _ _ _ e]
theorem A.put_keys (a : A) (k : ByteArray) (v : Int) : (a.put k v).keys = if (a.F k).isSome then a.keys else a.keys + 1 := by
  unfold A.put; split
  · rfl
  · rw [A.grow_keys]; rfl
theorem A.drop_keys (a : A) (k : ByteArray) : (a.drop k).keys = if (a.F k).isSome then a.keys - 1 else a.keys := by
  unfold A.drop; split
  · rfl
  · rw [A.step_keys]

/-- A key's hash, as a plain number. -/
def hsn (k : ByteArray) : Nat := (hs k).toNat
theorem hsn_eq (k : ByteArray) : hs k = ((hsn k : Nat) : Int) := by have := hs_bd k; unfold hsn; omega
theorem hsn_lt (k : ByteArray) : hsn k < 4294967296 := by have := hs_bd k; unfold hsn; omega
abbrev KV := ByteArray × Int
/-- How many buckets a row has (true: the new ones). -/
def A.cnt (a : A) (r : Bool) : Nat := if r then a.n else a.m
/-- The row in which a key stands. -/
def A.row (a : A) (k : ByteArray) : Bool := !(decide (0 < a.m ∧ a.mv ≤ hsn k % a.m))
def A.at_ (a : A) (k : ByteArray) : Nat := hsn k % a.cnt (a.row k)
def upd2 (B : Bool → Nat → List KV) (r : Bool) (i : Nat) (l : List KV) : Bool → Nat → List KV := fun r' i' => if r' = r ∧ i' = i then l else B r' i'
theorem upd2_same (B : Bool → Nat → List KV) (r : Bool) (i : Nat) (l : List KV) : upd2 B r i l r i = l := if_pos ⟨rfl, rfl⟩
theorem upd2_other (B : Bool → Nat → List KV) (r : Bool) (i : Nat) (l : List KV) {r' : Bool} {i' : Nat} (h : ¬ (r' = r ∧ i' = i)) : upd2 B r i l r' i' = B r' i' := if_neg h
structure Has (a : A) (B : Bool → Nat → List KV) : Prop where
  ok : a.Ok
  pl : ∀ r i, i < a.cnt r → ∀ p ∈ B r i, a.row p.1 = r ∧ hsn p.1 % a.cnt r = i
  nd : ∀ r i, i < a.cnt r → ((B r i).map (·.1)).Nodup
  ff : ∀ k v, a.F k = some v ↔ ∃ r i, i < a.cnt r ∧ (k, v) ∈ B r i
theorem A.cnt_row {a : A} (h : a.Ok) (k : ByteArray) : 0 < a.cnt (a.row k) := by
  by_cases e : 0 < a.m ∧ a.mv ≤ hsn k % a.m
  · have : a.row k = false := by simp [A.row, e]
    rw [this]; exact e.1
  · have : a.row k = true := by simp only [A.row, e]; rfl
    rw [this]; exact h.1
theorem A.at_lt {a : A} (h : a.Ok) (k : ByteArray) : a.at_ k < a.cnt (a.row k) := Nat.mod_lt _ (A.cnt_row h k)
theorem Has.at_ {a : A} {B : Bool → Nat → List KV} (h : Has a B) (k : ByteArray) (v : Int) : a.F k = some v ↔ (k, v) ∈ B (a.row k) (a.at_ k) := by
  rw [h.ff]
  constructor
  · rintro ⟨r, i, hi, hm⟩
    obtain ⟨h1, h2⟩ := h.pl r i hi _ hm
    unfold A.at_
    have h1 : a.row k = r := h1
    have h2 : hsn k % a.cnt r = i := h2
    rw [h1, h2]; exact hm
  · intro hm; exact ⟨_, _, A.at_lt h.ok k, hm⟩
theorem Has.nokey {a : A} {B : Bool → Nat → List KV} (h : Has a B) (k : ByteArray) (hn : ∀ p ∈ B (a.row k) (a.at_ k), p.1 ≠ k) : a.F k = none := by
  cases e : a.F k with
  | none => rfl
  | some v => exact absurd rfl (hn _ ((h.at_ k v).1 e))
/-- One bucket told anew. -/
theorem Has.upd {a : A} {B : Bool → Nat → List KV} (h : Has a B) (k : ByteArray) (v : Option Int) (q : Int) (l : List KV)
    (h1 : ∀ p ∈ l, p.1 ≠ k → p ∈ B (a.row k) (a.at_ k)) (h2 : ∀ p ∈ B (a.row k) (a.at_ k), p.1 ≠ k → p ∈ l) (hn : (l.map (·.1)).Nodup) (hk : ∀ u, v = some u ↔ (k, u) ∈ l) : Has (a.set k v q) (upd2 B (a.row k) (a.at_ k) l) := by
  have hat := A.at_lt h.ok k
  refine ⟨h.ok, fun r i hi p hp => ?_, fun r i hi => ?_, fun k' u => ?_⟩
  · show a.row p.1 = r ∧ hsn p.1 % a.cnt r = i
    by_cases e : r = a.row k ∧ i = a.at_ k
    · obtain ⟨rfl, rfl⟩ := e
      rw [upd2_same] at hp
      by_cases ek : p.1 = k
      · rw [ek]; exact ⟨rfl, rfl⟩
      · exact h.pl _ _ hat p (h1 p hp ek)
    · rw [upd2_other _ _ _ _ e] at hp; exact h.pl r i hi p hp
  · by_cases e : r = a.row k ∧ i = a.at_ k
    · obtain ⟨rfl, rfl⟩ := e
      rw [upd2_same]; exact hn
    · rw [upd2_other _ _ _ _ e]; exact h.nd r i hi
  · show setF a.F k v k' = some u ↔ _
    by_cases ek : k' = k
    · subst ek
      rw [setF_same, hk]
      constructor
      · intro hm; exact ⟨a.row k', a.at_ k', hat, by rw [upd2_same]; exact hm⟩
      · rintro ⟨r, i, hi, hm⟩
        by_cases e : r = a.row k' ∧ i = a.at_ k'
        · obtain ⟨rfl, rfl⟩ := e
          rw [upd2_same] at hm; exact hm
        · rw [upd2_other _ _ _ _ e] at hm
          obtain ⟨h3, h4⟩ := h.pl r i hi _ hm
          have h3 : a.row k' = r := h3
          have h4 : hsn k' % a.cnt r = i := h4
          subst h3
          exact absurd ⟨rfl, h4.symm⟩ e
    · rw [setF_other _ _ _ ek, h.ff]
      constructor
      · rintro ⟨r, i, hi, hm⟩
        refine ⟨r, i, hi, ?_⟩
        by_cases e : r = a.row k ∧ i = a.at_ k
        · obtain ⟨rfl, rfl⟩ := e
          rw [upd2_same]; exact h2 _ hm ek
        · rw [upd2_other _ _ _ _ e]; exact hm
      · rintro ⟨r, i, hi, hm⟩
        refine ⟨r, i, hi, ?_⟩
        by_cases e : r = a.row k ∧ i = a.at_ k
        · obtain ⟨rfl, rfl⟩ := e
          rw [upd2_same] at hm; exact h1 _ hm ek
        · rw [upd2_other _ _ _ _ e] at hm; exact hm
/-- In a bucket a key stands once. -/
theorem nd_mid {pre post : List KV} {k : ByteArray} {v : Int} (h : ((pre ++ (k, v) :: post).map (·.1)).Nodup) : (∀ p ∈ pre, p.1 ≠ k) ∧ (∀ p ∈ post, p.1 ≠ k) ∧ ((pre ++ post).map (·.1)).Nodup := by
  rw [List.map_append, List.map_cons] at h
  have h' := List.nodup_append.1 h
  have h3 := List.nodup_cons.1 h'.2.1
  refine ⟨fun p hp e => ?_, fun p hp e => ?_, ?_⟩
  · exact h'.2.2 _ (List.mem_map_of_mem hp) _ (List.mem_cons_self) e
  · have hx := List.mem_map_of_mem (f := (·.1)) hp
    rw [show p.1 = k from e] at hx
    exact h3.1 hx
  · rw [List.map_append]
    exact List.nodup_append.2 ⟨h'.1, h3.2, fun x hx y hy => h'.2.2 x hx y (List.mem_cons_of_mem _ hy)⟩
theorem Has.setOld {a : A} {B : Bool → Nat → List KV} (h : Has a B) (k : ByteArray) (u v : Int) (q : Int) (pre post : List KV) (e : B (a.row k) (a.at_ k) = pre ++ (k, u) :: post) :
    Has (a.set k (some v) q) (upd2 B (a.row k) (a.at_ k) (pre ++ (k, v) :: post)) := by
  have hn := h.nd _ _ (A.at_lt h.ok k)
  rw [e] at hn
  obtain ⟨n1, n2, n3⟩ := nd_mid hn
  refine h.upd k _ q _ (fun p hp hk => ?_) (fun p hp hk => ?_) ?_ (fun u' => ?_)
  · rw [e]; simp only [List.mem_append, List.mem_cons] at hp ⊢
    rcases hp with hp | rfl | hp
    · exact .inl hp
    · exact absurd rfl hk
    · exact .inr (.inr hp)
  · rw [e] at hp; simp only [List.mem_append, List.mem_cons] at hp ⊢
    rcases hp with hp | rfl | hp
    · exact .inl hp
    · exact absurd rfl hk
    · exact .inr (.inr hp)
  · have : ((pre ++ (k, v) :: post).map (·.1)) = ((pre ++ (k, u) :: post).map (·.1)) := by simp
    rw [this]; exact hn
  · constructor
    · intro e; injection e with e; subst e; simp
    · intro hm; simp only [List.mem_append, List.mem_cons] at hm
      rcases hm with hm | hm | hm
      · exact absurd rfl (n1 _ hm)
      · injection hm with _ hm; rw [hm]
      · exact absurd rfl (n2 _ hm)
theorem Has.setNew {a : A} {B : Bool → Nat → List KV} (h : Has a B) (k : ByteArray) (v : Int) (q : Int) (hn : ∀ p ∈ B (a.row k) (a.at_ k), p.1 ≠ k) :
    Has (a.set k (some v) q) (upd2 B (a.row k) (a.at_ k) (B (a.row k) (a.at_ k) ++ [(k, v)])) := by
  have hnd := h.nd _ _ (A.at_lt h.ok k)
  refine h.upd k _ q _ (fun p hp hk => ?_) (fun p hp hk => ?_) ?_ (fun u' => ?_)
  · simp only [List.mem_append, List.mem_singleton] at hp
    rcases hp with hp | rfl
    · exact hp
    · exact absurd rfl hk
  · simp only [List.mem_append]; exact .inl hp
  · rw [List.map_append]
    refine List.nodup_append.2 ⟨hnd, by simp, fun x hx y hy => ?_⟩
    obtain ⟨p, hp, rfl⟩ := List.mem_map.1 hx
    simp at hy; subst hy; exact hn p hp
  · constructor
    · intro e; injection e with e; subst e; simp
    · intro hm; simp only [List.mem_append, List.mem_singleton] at hm
      rcases hm with hm | hm
      · exact absurd rfl (hn _ hm)
      · injection hm with _ hm; rw [hm]
theorem Has.cut {a : A} {B : Bool → Nat → List KV} (h : Has a B) (k : ByteArray) (u : Int) (q : Int) (pre post : List KV) (e : B (a.row k) (a.at_ k) = pre ++ (k, u) :: post) :
    Has (a.set k none q) (upd2 B (a.row k) (a.at_ k) (pre ++ post)) := by
  have hn := h.nd _ _ (A.at_lt h.ok k)
  rw [e] at hn
  obtain ⟨n1, n2, n3⟩ := nd_mid hn
  refine h.upd k _ q _ (fun p hp hk => ?_) (fun p hp hk => ?_) n3 (fun u' => ?_)
  · rw [e]; simp only [List.mem_append, List.mem_cons] at hp ⊢
    rcases hp with hp | hp
    · exact .inl hp
    · exact .inr (.inr hp)
  · rw [e] at hp; simp only [List.mem_append, List.mem_cons] at hp ⊢
    rcases hp with hp | rfl | hp
    · exact .inl hp
    · exact absurd rfl hk
    · exact .inr hp
  · constructor
    · intro e; cases e
    · intro hm; simp only [List.mem_append] at hm
      rcases hm with hm | hm
      · exact absurd rfl (n1 _ hm)
      · exact absurd rfl (n2 _ hm)
/-- What is in the next old bucket goes to the new ones. -/
theorem Has.moved {a : A} {B : Bool → Nat → List KV} (h : Has a B) (hm : a.m ≠ 0) (N : Nat → List KV) (hN : ∀ j, j < a.n → ∀ p, p ∈ N j ↔ p ∈ B true j ∨ (p ∈ B false a.mv ∧ hsn p.1 % a.n = j)) (hnd : ∀ j, j < a.n → ((N j).map (·.1)).Nodup) :
    Has a.step (fun r j => if r then N j else if j = a.mv then [] else B false j) := by
  obtain ⟨o1, o2, o3⟩ := h.ok
  have o4 : 2 * a.m = a.n ∧ a.mv < a.m := by omega
  have okS : a.step.Ok := by
    unfold A.step A.Ok
    rw [if_neg hm]
    split
    · exact ⟨o1, o2, .inl ⟨rfl, rfl⟩⟩
    · exact ⟨o1, o2, .inr ⟨o4.1, by show a.mv + 1 < a.m; omega⟩⟩
  have hcn : a.step.cnt true = a.n := a.step_n
  have hold : ∀ j, j < a.step.cnt false → a.step.cnt false = a.m ∧ a.step.mv = a.mv + 1 ∧ a.step.m = a.m := by
    intro j hj
    by_cases e : a.mv + 1 = a.m
    · have es : a.step = { a with m := 0, mv := 0 } := by unfold A.step; rw [if_neg hm, if_pos e]
      rw [es] at hj
      exact absurd hj (Nat.not_lt_zero _)
    · have es : a.step = { a with mv := a.mv + 1 } := by unfold A.step; rw [if_neg hm, if_neg e]
      rw [es]; exact ⟨rfl, rfl, rfl⟩
  have hrow : ∀ k, a.step.row k = if a.row k = false ∧ hsn k % a.m ≠ a.mv then false else true := by
    intro k
    have hlt : hsn k % a.m < a.m := Nat.mod_lt _ (by omega)
    unfold A.row A.step
    rw [if_neg hm]
    split
    · rename_i e
      by_cases c : a.mv ≤ hsn k % a.m
      · have c' : hsn k % a.m = a.mv := by omega
        simp [c']
      · simp [c]
    · by_cases c : a.mv ≤ hsn k % a.m
      · by_cases c' : hsn k % a.m = a.mv
        · simp [c']
        · have c2 : a.mv + 1 ≤ hsn k % a.m := by omega
          simp [c, c', c2, Nat.pos_of_ne_zero hm]
      · have c2 : ¬ (a.mv + 1 ≤ hsn k % a.m) := by omega
        simp [c, c2]
  have oldIn : ∀ p j, j < a.m → p ∈ B false j → a.row p.1 = false ∧ hsn p.1 % a.m = j := fun p j hj hp => h.pl false j hj p hp
  refine ⟨okS, fun r i hi p hp => ?_, fun r i hi => ?_, fun k v => ?_⟩
  · cases r with
    | true =>
      rw [hcn] at hi ⊢
      simp only [if_true] at hp
      rcases (hN i hi p).1 hp with hp | ⟨hp, he⟩
      · obtain ⟨q1, q2⟩ := h.pl true i hi p hp
        exact ⟨by rw [hrow, if_neg (by rw [q1]; simp)], q2⟩
      · obtain ⟨q1, q2⟩ := oldIn p a.mv o4.2 hp
        exact ⟨by rw [hrow, if_neg (by simp [q2])], he⟩
    | false =>
      obtain ⟨c1, c2, c3⟩ := hold i hi
      simp only [Bool.false_eq_true, if_false] at hp
      rw [c1] at hi ⊢
      split at hp
      · cases hp
      · rename_i e
        obtain ⟨q1, q2⟩ := oldIn p i hi hp
        exact ⟨by rw [hrow, if_pos ⟨q1, by rw [q2]; exact e⟩], q2⟩
  · cases r with
    | true => rw [hcn] at hi; simpa using hnd i hi
    | false =>
      obtain ⟨c1, c2, c3⟩ := hold i hi
      rw [c1] at hi
      simp only [Bool.false_eq_true, if_false]
      split
      · simp
      · exact h.nd false i hi
  · rw [A.step_F, h.ff]
    constructor
    · rintro ⟨r, i, hi, hp⟩
      cases r with
      | true =>
        exact ⟨true, i, by rw [hcn]; exact hi, by simp only [if_true]; exact (hN i hi _).2 (.inl hp)⟩
      | false =>
        by_cases e : i = a.mv
        · subst e
          refine ⟨true, hsn k % a.n, by rw [hcn]; exact Nat.mod_lt _ o1, ?_⟩
          simp only [if_true]
          exact (hN _ (Nat.mod_lt _ o1) _).2 (.inr ⟨hp, rfl⟩)
        · obtain ⟨q1, q2⟩ := oldIn _ i hi hp
          have hi' : i < a.m := hi
          have q2 : hsn k % a.m = i := q2
          have hmv : a.mv ≤ i := by
            have q1 : a.row k = false := q1
            unfold A.row at q1
            simp at q1
            omega
          have ec : a.step.cnt false = a.m := by
            have es : a.step = { a with mv := a.mv + 1 } := by unfold A.step; rw [if_neg hm, if_neg (by omega)]
            rw [es]; rfl
          refine ⟨false, i, by rw [ec]; exact hi', ?_⟩
          simp only [Bool.false_eq_true, if_false, if_neg e]; exact hp
    · rintro ⟨r, i, hi, hp⟩
      cases r with
      | true =>
        rw [hcn] at hi
        simp only [if_true] at hp
        rcases (hN i hi _).1 hp with hp | ⟨hp, he⟩
        · exact ⟨true, i, hi, hp⟩
        · exact ⟨false, a.mv, o4.2, hp⟩
      | false =>
        obtain ⟨c1, c2, c3⟩ := hold i hi
        rw [c1] at hi
        simp only [Bool.false_eq_true, if_false] at hp
        split at hp
        · cases hp
        · exact ⟨false, i, hi, hp⟩
theorem Has.rest {a : A} {B : Bool → Nat → List KV} (h : Has a B) (hm : a.m = 0) : Has a.step B := by
  have : a.step = a := by unfold A.step; rw [if_pos hm]
  rw [this]; exact h
/-- Twice as many buckets. -/
theorem Has.grown {a : A} {B : Bool → Nat → List KV} (h : Has a B) (hm : a.m = 0) (hn : a.n < 4096) : Has { a with n := 2 * a.n, m := a.n, mv := 0 } (fun r j => if r then [] else B true j) := by
  obtain ⟨o1, o2, o3⟩ := h.ok
  refine ⟨⟨by show 0 < 2 * a.n; omega, by show 2 * a.n ≤ 8192; omega, .inr ⟨rfl, o1⟩⟩, fun r i hi p hp => ?_, fun r i hi => ?_, fun k v => ?_⟩
  · cases r with
    | true => simp at hp
    | false =>
      simp only [Bool.false_eq_true, if_false] at hp
      obtain ⟨q1, q2⟩ := h.pl true i hi p hp
      exact ⟨by simp [A.row, o1], q2⟩
  · cases r with
    | true => simp
    | false => simp only [Bool.false_eq_true, if_false]; exact h.nd true i hi
  · show a.F k = some v ↔ _
    rw [h.ff]
    constructor
    · rintro ⟨r, i, hi, hp⟩
      cases r with
      | true => exact ⟨false, i, hi, by simpa using hp⟩
      | false =>
        have hi : i < a.m := hi
        omega
    · rintro ⟨r, i, hi, hp⟩
      cases r with
      | true => simp at hp
      | false => exact ⟨true, i, hi, by simpa using hp⟩
theorem Has.new : Has A0 (fun _ _ => []) := by
  refine ⟨⟨by decide, by decide, .inl ⟨rfl, rfl⟩⟩, fun r i hi p hp => by simp at hp, fun r i hi => by simp, fun k v => ⟨fun h => (by cases h), ?_⟩⟩
  rintro ⟨r, i, _, h⟩
  simp at h
theorem Has.congr {a : A} {B B' : Bool → Nat → List KV} (h : Has a B) (e : ∀ r i, i < a.cnt r → B' r i = B r i) : Has a B' :=
  ⟨h.ok, fun r i hi p hp => h.pl r i hi p (by rw [← e r i hi]; exact hp), fun r i hi => by rw [e r i hi]; exact h.nd r i hi, fun k v => by
    rw [h.ff]
    exact ⟨fun ⟨r, i, hi, hp⟩ => ⟨r, i, hi, by rw [e r i hi]; exact hp⟩, fun ⟨r, i, hi, hp⟩ => ⟨r, i, hi, by rw [← e r i hi]; exact hp⟩⟩⟩
end Go.Proofs.YtfinaichajbnkaaGreatDoor


namespace Go.Proofs.YtfinaichajbnkaaGreatDoor
open Go.RowKit

structure Ent where
  b : Nat
  k : ByteArray
  v : Int
def Ent.kv (e : Ent) : KV := (e.k, e.v)
/-- The pointer to the first one. -/
def hd : List Ent → Value
  | [] => .pointer none
  | e :: _ => .pointer (some ⟨e.b, 0, none⟩)
def hdp : List Ent → Option Addr
  | [] => none
  | e :: _ => some ⟨e.b, 0, none⟩
theorem hd_eq (l : List Ent) : hd l = .pointer (hdp l) := by cases l <;> rfl
/-- An entry lies in its block. -/
structure EntF (w : World) (o : Nat → Nat × Nat) (x : Nat) (e : Ent) (nx : Value) : Prop where
  ob : o e.b = (x, 2)
  c0 : w.cell? ⟨e.b, 0, none⟩ = some (.string e.k)
  c1 : w.cell? ⟨e.b, 1, none⟩ = some (.int .i64 e.v)
  c2 : w.cell? ⟨e.b, 2, none⟩ = some nx
  f1 : w.frozen? ⟨e.b, 1, none⟩ = false
  f2 : w.frozen? ⟨e.b, 2, none⟩ = false
  ks : e.k.size ≤ 140737488355328
theorem EntF.lt {w : World} {o : Nat → Nat × Nat} {x : Nat} {e : Ent} {nx : Value} (h : EntF w o x e nx) : e.b < w.heap.size := World.block_lt_of_cell? _ _ h.c0
theorem EntF.cg {w w' : World} {o o' : Nat → Nat × Nat} {x : Nat} {e : Ent} {nx : Value} (h : EntF w o x e nx) (hb : w'.heap[e.b]? = w.heap[e.b]?) (ho : o' e.b = o e.b) : EntF w' o' x e nx :=
  ⟨ho.trans h.ob, (World.cell?_of_block (a := ⟨e.b, 0, none⟩) hb).trans h.c0, (World.cell?_of_block (a := ⟨e.b, 1, none⟩) hb).trans h.c1, (World.cell?_of_block (a := ⟨e.b, 2, none⟩) hb).trans h.c2,
    (World.frozen?_of_block (a := ⟨e.b, 1, none⟩) hb).trans h.f1, (World.frozen?_of_block (a := ⟨e.b, 2, none⟩) hb).trans h.f2, h.ks⟩
/-- Two entries in one block have one key. -/
theorem EntF.key {w : World} {o o' : Nat → Nat × Nat} {x x' : Nat} {e e' : Ent} {nx nx' : Value} (h : EntF w o x e nx) (h' : EntF w o' x' e' nx') (hb : e.b = e'.b) : e.k = e'.k := by
  have h1 := h.c0
  rw [hb, h'.c0] at h1
  injection h1 with h1
  injection h1 with h1
  exact h1.symm
def Chn (w : World) (o : Nat → Nat × Nat) (x : Nat) : List Ent → Prop
  | [] => True
  | e :: l => EntF w o x e (hd l) ∧ Chn w o x l
theorem Chn.tail {w : World} {o : Nat → Nat × Nat} {x : Nat} : ∀ {pre post : List Ent}, Chn w o x (pre ++ post) → Chn w o x post
  | [], _, h => h
  | _ :: pre, _, h => Chn.tail (pre := pre) h.2
theorem Chn.mem {w : World} {o : Nat → Nat × Nat} {x : Nat} : ∀ {l : List Ent}, Chn w o x l → ∀ {e}, e ∈ l → ∃ nx, EntF w o x e nx
  | _ :: _, h, e, he => by
    rcases List.mem_cons.1 he with rfl | he
    · exact ⟨_, h.1⟩
    · exact Chn.mem h.2 he
theorem Chn.cg {w w' : World} {o o' : Nat → Nat × Nat} {x : Nat} : ∀ {l : List Ent}, Chn w o x l → (∀ e ∈ l, w'.heap[e.b]? = w.heap[e.b]?) → (∀ e ∈ l, o' e.b = o e.b) → Chn w' o' x l
  | [], _, _, _ => trivial
  | e :: _, h, hb, ho => ⟨h.1.cg (hb e List.mem_cons_self) (ho e List.mem_cons_self), Chn.cg h.2 (fun e he => hb e (List.mem_cons_of_mem _ he)) (fun e he => ho e (List.mem_cons_of_mem _ he))⟩
theorem Chn.fr {T : Nat × Nat → Prop} {w w' : World} {o o' : Nat → Nat × Nat} {x : Nat} {l : List Ent} (h : Chn w o x l) (f : Fr T o o' w w') (hT : ¬ T (x, 2)) : Chn w' o' x l :=
  h.cg (fun e he => by obtain ⟨nx, hn⟩ := h.mem he; exact f.block _ hn.lt (by rw [hn.ob]; exact hT)) (fun e he => by obtain ⟨nx, hn⟩ := h.mem he; exact f.lab _ hn.lt)
/-- A row of n buckets lies in block G. -/
structure RowR (w : World) (o : Nat → Nat × Nat) (x G n : Nat) (E : Nat → List Ent) : Prop where
  og : o G = (x, 1)
  cl : ∀ i, i < n → w.cell? ⟨G, i, none⟩ = some (hd (E i))
  fz : ∀ i, i < n → w.frozen? ⟨G, i, none⟩ = false
  ch : ∀ i, i < n → Chn w o x (E i)
theorem RowR.fr {T : Nat × Nat → Prop} {w w' : World} {o o' : Nat → Nat × Nat} {x G n : Nat} {E : Nat → List Ent} (h : RowR w o x G n E) (hn : 0 < n) (f : Fr T o o' w w') (h1 : ¬ T (x, 1)) (h2 : ¬ T (x, 2)) : RowR w' o' x G n E := by
  have hlt := World.block_lt_of_cell? _ _ (h.cl 0 hn)
  have hG : ¬ T (o G) := by rw [h.og]; exact h1
  exact ⟨(f.lab G hlt).trans h.og, fun i hi => f.cell (h.cl i hi) hG, fun i hi => (f.frozen hlt hG).trans (h.fz i hi), fun i hi => (h.ch i hi).fr f h2⟩
/-- The old row's slice. -/
def oldV (m G : Nat) : Value := if m = 0 then .slice none 0 0 else .slice (some ⟨G, 0, none⟩) m m
theorem oldV_form (m G : Nat) : ∃ s, oldV m G = .slice s m m := by
  unfold oldV
  split
  · rename_i h; exact ⟨none, by rw [h]⟩
  · exact ⟨_, rfl⟩
theorem oldV_pos {m : Nat} (h : m ≠ 0) (G : Nat) : oldV m G = .slice (some ⟨G, 0, none⟩) m m := if_neg h
structure IsC (w : World) (o : Nat → Nat × Nat) (x C : Nat) (a : A) (E : Bool → Nat → List Ent) (G : Bool → Nat) : Prop where
  has : Has a (fun r i => (E r i).map Ent.kv)
  oC : o C = (x, 0)
  c0 : w.cell? ⟨C, 0, none⟩ = some (oldV a.m (G false))
  c1 : w.cell? ⟨C, 1, none⟩ = some (.int .i64 ((a.mv : Nat) : Int))
  c2 : w.cell? ⟨C, 2, none⟩ = some (.slice (some ⟨G true, 0, none⟩) a.n a.n)
  c3 : w.cell? ⟨C, 3, none⟩ = some (.int .i64 0)
  c4 : w.cell? ⟨C, 4, none⟩ = some (.int .i64 a.keys)
  fz : ∀ j, w.frozen? ⟨C, j, none⟩ = false
  row : ∀ r, 0 < a.cnt r → RowR w o x (G r) (a.cnt r) (E r)
  gne : a.m ≠ 0 → G false ≠ G true
/-- A chain lies in block C; its blocks bear x's marks. -/
def IsChain (w : World) (o : Nat → Nat × Nat) (x C : Nat) (a : A) : Prop := ∃ E G, IsC w o x C a E G
theorem IsC.fr {T : Nat × Nat → Prop} {w w' : World} {o o' : Nat → Nat × Nat} {x C : Nat} {a : A} {E : Bool → Nat → List Ent} {G : Bool → Nat} (h : IsC w o x C a E G) (f : Fr T o o' w w') (hT : ∀ q, ¬ T (x, q)) : IsC w' o' x C a E G := by
  have hlt := World.block_lt_of_cell? _ _ h.c0
  have hC : ¬ T (o C) := by rw [h.oC]; exact hT 0
  exact ⟨h.has, (f.lab C hlt).trans h.oC, f.cell h.c0 hC, f.cell h.c1 hC, f.cell h.c2 hC, f.cell h.c3 hC, f.cell h.c4 hC, fun j => (f.frozen hlt hC).trans (h.fz j), fun r hr => (h.row r hr).fr hr f (hT 1) (hT 2), h.gne⟩
theorem IsC.below {w w' : World} {o : Nat → Nat × Nat} {x C : Nat} {a : A} {E : Bool → Nat → List Ent} {G : Bool → Nat} (h : IsC w o x C a E G) (hb : Below w.heap.size w w') : IsC w' o x C a E G := h.fr (Fr.ofBelow (fun _ => False) o hb) (fun _ x => x)
theorem IsChain.fr {T : Nat × Nat → Prop} {w w' : World} {o o' : Nat → Nat × Nat} {x C : Nat} {a : A} (h : IsChain w o x C a) (f : Fr T o o' w w') (hT : ∀ q, ¬ T (x, q)) : IsChain w' o' x C a := by
  obtain ⟨E, G, h⟩ := h; exact ⟨E, G, h.fr f hT⟩
theorem IsChain.below {w w' : World} {o : Nat → Nat × Nat} {x C : Nat} {a : A} (h : IsChain w o x C a) (hb : Below w.heap.size w w') : IsChain w' o x C a := by
  obtain ⟨E, G, h⟩ := h; exact ⟨E, G, h.below hb⟩
theorem IsChain.ok {w : World} {o : Nat → Nat × Nat} {x C : Nat} {a : A} (h : IsChain w o x C a) : a.Ok := by
  obtain ⟨E, G, h⟩ := h; exact h.has.ok
set_option maxRecDepth 100000 in
set_option maxHeartbeats 1000000 in
theorem place_any (B q n c mv h : Nat) (s : Option Addr) (hn : n ≤ 8192) (hh : h < 4294967296) (w : World) (c0 : w.cell? ⟨B, q, none⟩ = some (.slice s n c)) (c1 : w.cell? ⟨B, q + 1, none⟩ = some (.int .i64 ((mv : Nat) : Int))) :
    Calls Tryz.prog 110 #[.pointer (some ⟨B, q, none⟩), .int .u32 ((h : Nat) : Int)] w fun e w' => e = .returned (.tuple #[.int .i64 (((if n = 0 then 0 else h % n) : Nat) : Int), .bool (decide (0 < n ∧ mv ≤ h % n))]) ∧ ∃ k, w' = w.drewN k := by
  by_cases hn0 : n = 0
  · subst hn0
    go_enter Tryz.func110, Tryz.ntmps110
    go_wp2_with fail
    go_ret2
    exact ⟨rfl, 0, rfl⟩
  · have e0 : ((n : Int) == 0) = false := by simp; omega
    obtain ⟨r, hr⟩ : ∃ r, r = h % n := ⟨_, rfl⟩
    have hrn : r < n := by rw [hr]; exact Nat.mod_lt _ (by omega)
    have hw : wrap64 ((h : Int) % (n : Int)) = ((r : Nat) : Int) := by
      rw [← Int.natCast_emod, ← hr]; unfold wrap64; omega
    have HW : Hid (wrap64 ((h : Int) % (n : Int)) = ((r : Nat) : Int)) := hw
    have hd1 : decide (0 < n ∧ mv ≤ r) = decide (mv ≤ r) := by simp; omega
    rw [if_neg hn0, ← hr, hd1]
    clear hw hr hd1
    go_enter Tryz.func110, Tryz.ntmps110
    go_wp2_with fail
    rw [HW.out]
    go_quiet (fail)
    go_wp2_with fail
    go_ret2
    exact ⟨rfl, nq, rfl⟩
set_option maxRecDepth 100000 in
theorem len_any (x C : Nat) (a : A) (w : World) (o : Nat → Nat × Nat) (h : IsChain w o x C a) :
    Calls Tryz.prog 93 #[.pointer (some ⟨C, 0, none⟩)] w fun e w' => e = .returned (.int .i64 a.keys) ∧ w = w' := by
  obtain ⟨E, G, h⟩ := h
  have c4 := h.c4
  clear h
  go_enter Tryz.func93, Tryz.ntmps93
  go_wp2_with fail
  go_ret
  exact ⟨rfl, rfl⟩
end Go.Proofs.YtfinaichajbnkaaGreatDoor


namespace Go.Proofs.YtfinaichajbnkaaGreatDoor
open Go.RowKit

/-- The link behind the entries pre of a bucket. -/
def lnk (G i : Nat) (pre : List Ent) : Addr := match pre.getLast? with
  | none => ⟨G, i, none⟩
  | some e => ⟨e.b, 2, none⟩
theorem lnk_nil (G i : Nat) : lnk G i [] = ⟨G, i, none⟩ := rfl
theorem lnk_end (G i : Nat) (pre : List Ent) (e : Ent) : lnk G i (pre ++ [e]) = ⟨e.b, 2, none⟩ := by simp [lnk]
/-- How many are behind a link. -/
def remF : List Ent → Nat → Nat
  | [], _ => 0
  | e :: l, b => if b = e.b then l.length else remF l b
theorem remF_at : ∀ (pre : List Ent) (e : Ent) (post : List Ent), (∀ q ∈ pre, q.b ≠ e.b) → remF (pre ++ e :: post) e.b = post.length
  | [], e, post, _ => by simp [remF]
  | q :: pre, e, post, h => by
    show (if _ then _ else remF (pre ++ e :: post) _) = _
    rw [if_neg (fun he => h q List.mem_cons_self he.symm)]
    exact remF_at pre e post (fun q hq => h q (List.mem_cons_of_mem _ hq))
def blk : Value → Nat
  | .pointer (some p) => p.block
  | _ => 0
def remV (G : Nat) (L : List Ent) (v : Value) : Nat := if blk v = G then L.length else remF L (blk v)
/-- What stands at a link. -/
theorem RowR.link {w : World} {o : Nat → Nat × Nat} {x G n i : Nat} {E : Nat → List Ent} (h : RowR w o x G n E) (hi : i < n) {pre post : List Ent} (he : E i = pre ++ post) : w.cell? (lnk G i pre) = some (hd post) ∧ w.frozen? (lnk G i pre) = false := by
  rcases List.eq_nil_or_concat pre with rfl | ⟨p, e, rfl⟩
  · rw [List.nil_append] at he
    rw [lnk_nil, h.cl i hi, he]; exact ⟨rfl, h.fz i hi⟩
  · have hc := h.ch i hi
    rw [he] at hc
    simp only [List.concat_eq_append, List.append_assoc, List.singleton_append] at hc ⊢
    have := hc.tail.1
    rw [lnk_end]; exact ⟨this.c2, this.f2⟩
/-- Entries of one bucket, with keys of their own, lie in blocks of their own. -/
theorem Chn.apart {w : World} {o : Nat → Nat × Nat} {x : Nat} {pre post : List Ent} {e : Ent} (h : Chn w o x (pre ++ e :: post)) (hn : ((pre ++ e :: post).map Ent.kv |>.map (·.1)).Nodup) : (∀ q ∈ pre, q.b ≠ e.b) ∧ ∀ q ∈ post, q.b ≠ e.b := by
  rw [List.map_append, List.map_cons] at hn
  obtain ⟨n1, n2, _⟩ := nd_mid (k := e.k) (v := e.v) hn
  obtain ⟨_, he⟩ := h.mem (e := e) (by simp)
  constructor
  · intro q hq hb
    obtain ⟨_, h'⟩ := h.mem (e := q) (by simp [hq])
    exact n1 _ (List.mem_map_of_mem hq) (h'.key he hb)
  · intro q hq hb
    obtain ⟨_, h'⟩ := h.mem (e := q) (by simp [hq])
    exact n2 _ (List.mem_map_of_mem hq) (h'.key he hb)
/-- What find tells. -/
def FindP (w : World) (a : A) (E : Bool → Nat → List Ent) (G : Bool → Nat) (k : ByteArray) (w' : World) (p : Addr) : Prop :=
  ∃ pre post, E (a.row k) (a.at_ k) = pre ++ post ∧ p = lnk (G (a.row k)) (a.at_ k) pre ∧ (∀ e ∈ pre, e.k ≠ k) ∧ (post = [] ∨ ∃ e t, post = e :: t ∧ e.k = k) ∧ Below w.heap.size w w'
set_option maxRecDepth 100000 in
set_option maxHeartbeats 2000000 in
theorem find_any (x C : Nat) (a : A) (k : ByteArray) (hk : k.size ≤ 140737488355328) (w : World) (o : Nat → Nat × Nat) (E : Bool → Nat → List Ent) (G : Bool → Nat) (h : IsC w o x C a E G) :
    Calls Tryz.prog 87 #[.pointer (some ⟨C, 0, none⟩), .string k] w fun e w' => ∃ p, e = .returned (.pointer (some p)) ∧ FindP w a E G k w' p := by
  have c0 := h.c0
  have c1 := h.c1
  have c2 := h.c2
  have c3 := h.c3
  obtain ⟨s, hs⟩ := oldV_form a.m (G false)
  rw [hs] at c0
  have HC : Hid (IsC w o x C a E G) := h
  have HS : Hid (oldV a.m (G false) = .slice s a.m a.m) := hs
  clear h hs
  go_enter Tryz.func87, Tryz.ntmps87
  go_wp2_with fail
  go_step3
  go_wp2_with fail
  refine (hash_any k hk _).mono ?_
  rintro e w2 ⟨rfl, rfl⟩
  rw [hsn_eq]
  go_wp2_with fail
  go_step3
  go_wp2_with fail
  go_quiet (fail)
  go_wp2_with fail
  have HB0 : Hid (Below w.heap.size w (w.drewN nq)) := below_drewN (Below.refl _ _) nq
  go_loopw [6, 22] (fun l y wr => ∃ j : Nat, y = .int .i64 (j : Int) ∧ l = .pointer none ∧ (j = 0 ∨ j = 1 ∧ Hid (a.row k = true)) ∧ Hid (Below w.heap.size w wr)) (fun _ y _ => 2 - (intOf y).toNat)
  case atStart => exact ⟨0, rfl, rfl, .inl rfl, HB0⟩
  case round =>
    clear HB0
    obtain ⟨j, rfl, rfl, hj, HB⟩ := hrel
    have hok := HC.out.has.ok
    have hn1 := hok.1
    have hn2 := hok.2.1
    have hm2 : a.m ≤ 8192 := by have := hok.2.2; omega
    have hh := hsn_lt k
    have hsz := HB.out.size
    have i0 : ∀ w : World, (Instr.index 158 (.agg #[.slice s a.m a.m, .int .i64 ((a.mv : Nat) : Int), .slice (some ⟨G true, 0, none⟩) a.n a.n, .int .i64 0]) (.int .i64 0)).run Tryz.prog w = .ok (.agg #[.slice s a.m a.m, .int .i64 ((a.mv : Nat) : Int)]) w := fun _ => by kernel_rfl
    have i1 : ∀ w : World, (Instr.index 158 (.agg #[.slice s a.m a.m, .int .i64 ((a.mv : Nat) : Int), .slice (some ⟨G true, 0, none⟩) a.n a.n, .int .i64 0]) (.int .i64 1)).run Tryz.prog w = .ok (.agg #[.slice (some ⟨G true, 0, none⟩) a.n a.n, .int .i64 0]) w := fun _ => by kernel_rfl
    rcases hj with rfl | ⟨rfl, hr1⟩
    · by_cases hr : a.row k = false
      · have hmm : 0 < a.m ∧ a.mv ≤ hsn k % a.m := by
          unfold A.row at hr
          simpa using hr
        have hm0 := hmm.1
        have dd : decide (0 < a.m ∧ a.mv ≤ hsn k % a.m) = true := by simpa using hmm
        have nn : (if a.m = 0 then 0 else hsn k % a.m) = hsn k % a.m := if_neg (by omega)
        have es := HS.out
        rw [oldV_pos (by omega)] at es
        injection es with es
        subst es
        clear hmm
        go_wp2_with fail
        refine (place_any wr.heap.size 0 a.m a.m a.mv (hsn k) (some ⟨G false, 0, none⟩) hm2 hh _ (by rw [World.cell?_alloc_new]; rfl) (by rw [World.cell?_alloc_new]; rfl)).mono ?_
        rintro e w2 ⟨rfl, q, rfl⟩
        rw [dd, nn]
        clear dd nn
        obtain ⟨W2, hW2⟩ : ∃ W2, W2 = (wr.alloc (.cells #[.slice (some ⟨G false, 0, none⟩) a.m a.m, .int .i64 ((a.mv : Nat) : Int)] 79)).drewN q := ⟨_, rfl⟩
        have B2 : Below w.heap.size w W2 := by rw [hW2]; exact below_drewN (HB.out.alloc HB.out.size _) q
        have d0 : W2.cell? ⟨wr.heap.size, 0, none⟩ = some (.slice (some ⟨G false, 0, none⟩) a.m a.m) := by rw [hW2]; show (wr.alloc _).cell? _ = _; rw [World.cell?_alloc_new]; rfl
        rw [← hW2]
        have RR := (HC.out.below B2).row false hm0
        have hn := HC.out.has.nd false (a.at_ k) (by rw [← hr]; exact A.at_lt hok k)
        have hat : a.at_ k < a.m := by have := A.at_lt hok k; rw [hr] at this; exact this
        have ea : hsn k % a.m = a.at_ k := by unfold A.at_; rw [hr]; rfl
        have HR : Hid (RowR W2 o x (G false) (a.cnt false) (E false)) := RR
        have HN : Hid (((E false (a.at_ k)).map Ent.kv |>.map (·.1)).Nodup) := hn
        have HB2 : Hid (Below w.heap.size w W2) := B2
        have hr0 : Hid (a.row k = false) := hr
        obtain ⟨t, ht⟩ : ∃ t, t = a.at_ k := ⟨_, rfl⟩
        have HT : Hid (t = a.at_ k) := ht
        rw [← ht] at hat ea HN
        rw [ea]
        have ti : (t : Int) < ((a.m : Nat) : Int) := by omega
        clear hW2 B2 RR hn hr ht HB ea hsz i0 i1
        go_wp2_with fail
        go_loopw [6] (fun l wi => ∃ pre post, Hid (E false t = pre ++ post) ∧ l = .pointer (some (lnk (G false) t pre)) ∧ Hid (∀ e ∈ pre, e.k ≠ k) ∧ W2 = wi) (fun l _ => remV (G false) (E false t) l)
        case atStart => exact ⟨[], E false t, rfl, rfl, fun e he => (by cases he), rfl⟩
        case round =>
          obtain ⟨pre, post, HE, rfl, HP, rfl⟩ := hrel
          obtain ⟨l1, l2⟩ := HR.out.link (by exact hat) HE.out
          have hch := HR.out.ch t hat
          rw [HE.out] at hch
          have ofind : ∀ (post' : List Ent), post = post' → (post' = [] ∨ ∃ e t, post' = e :: t ∧ e.k = k) → FindP w a E G k W2 (lnk (G false) t pre) := fun post' e h => by
            subst e
            refine ⟨pre, post, ?_, ?_, HP.out, h, HB2.out⟩
            · rw [hr0.out, ← HT.out]; exact HE.out
            · rw [hr0.out, ← HT.out]
          have OF : Hid (∀ (post' : List Ent), post = post' → (post' = [] ∨ ∃ e t, post' = e :: t ∧ e.k = k) → FindP w a E G k W2 (lnk (G false) t pre)) := ofind
          have hrem : Hid (remV (G false) (E false t) (.pointer (some (lnk (G false) t pre))) = post.length) := by
            show _ = _
            unfold remV
            rcases List.eq_nil_or_concat pre with rfl | ⟨p, e, rfl⟩
            · rw [lnk_nil, if_pos (show blk (Value.pointer (some ⟨G false, t, none⟩)) = G false from rfl), HE.out]; rfl
            · simp only [List.concat_eq_append] at HE hch ⊢
              have hch2 := hch
              rw [List.append_assoc, List.singleton_append] at hch
              have he := hch.tail.1
              have hnn := HN.out
              rw [HE.out, List.append_assoc, List.singleton_append] at hnn
              obtain ⟨q1, q2⟩ := hch.apart hnn
              rw [lnk_end, if_neg (fun h => by have h1 := HR.out.og; rw [← (show e.b = G false from h), he.ob] at h1; injection h1 with _ h1; cases h1), HE.out, List.append_assoc, List.singleton_append]
              exact remF_at p e post q1
          clear ofind l2
          obtain ⟨pb, po, hp⟩ : ∃ pb po, lnk (G false) t pre = ⟨pb, po, none⟩ := by
            unfold lnk; split
            · exact ⟨_, _, rfl⟩
            · exact ⟨_, _, rfl⟩
          have HPB : Hid (lnk (G false) t pre = ⟨pb, po, none⟩) := hp
          rw [hp] at l1 ⊢
          clear hp
          cases post with
          | nil =>
            replace l1 : W2.cell? ⟨pb, po, none⟩ = some (.pointer none) := l1
            clear hch
            go_wp2_with fail
            simp only [Exit.noGoto_ret]
            go_ret
            exact ⟨_, rfl, by rw [← HPB.out]; exact OF.out [] rfl (.inl rfl)⟩
          | cons e post =>
            replace l1 : W2.cell? ⟨pb, po, none⟩ = some (.pointer (some ⟨e.b, 0, none⟩)) := l1
            have he := hch.tail.1
            have e0 := he.c0
            have hnn := HN.out
            rw [HE.out] at hnn
            have hap : Hid ((∀ q ∈ pre, q.b ≠ e.b) ∧ ∀ q ∈ post, q.b ≠ e.b) := hch.apart hnn
            have hge : Hid (e.b ≠ G false) := fun h => by have h1 := HR.out.og; rw [← h, he.ob] at h1; injection h1 with _ h1; cases h1
            clear he hch hnn
            by_cases hek : e.k = k
            · have s1 : (e.k.toList == k.toList) = true := by rw [str_beq, hek]; simp
              have HEK : Hid (e.k = k) := hek
              clear hek
              go_wp2_with fail
              simp only [Exit.noGoto_ret]
              go_ret
              exact ⟨_, rfl, by rw [← HPB.out]; exact OF.out _ rfl (.inr ⟨e, post, rfl, HEK.out⟩)⟩
            · have s1 : (e.k.toList == k.toList) = false := by rw [str_beq, decide_eq_false hek]
              have HEK : Hid (e.k ≠ k) := hek
              clear hek
              go_wp2_with fail
              refine ⟨⟨pre ++ [e], post, by show _ = _; rw [HE.out]; simp, by rw [lnk_end], fun q hq => ?_, trivial⟩, ?_⟩
              · rcases List.mem_append.1 hq with hq | hq
                · exact HP.out q hq
                · rw [List.mem_singleton.1 hq]; exact HEK.out
              · have h1 := hrem.out
                rw [HPB.out] at h1
                rw [h1]
                unfold remV
                rw [if_neg (show ¬ (blk (Value.pointer (some ⟨e.b, 2, none⟩)) = G false) from hge.out)]
                show remF _ e.b < _
                rw [HE.out, remF_at pre e post hap.out.1]
                simp
      · have hr2 : a.row k = true := by simpa using hr
        have dd : decide (0 < a.m ∧ a.mv ≤ hsn k % a.m) = false := by
          unfold A.row at hr2
          simp only [Bool.not_eq_true', decide_eq_false_iff_not] at hr2 ⊢
          exact hr2
        have HR2 : Hid (a.row k = true) := hr2
        clear hr hr2
        go_wp2_with fail
        refine (place_any wr.heap.size 0 a.m a.m a.mv (hsn k) s hm2 hh _ (by rw [World.cell?_alloc_new]; rfl) (by rw [World.cell?_alloc_new]; rfl)).mono ?_
        rintro e w2 ⟨rfl, q, rfl⟩
        rw [dd]
        clear dd
        obtain ⟨z, hz⟩ : ∃ z, z = (if a.m = 0 then 0 else hsn k % a.m) := ⟨_, rfl⟩
        rw [← hz]
        clear hz
        have HB3 : Hid (Below w.heap.size w ((wr.alloc (.cells #[.slice s a.m a.m, .int .i64 ((a.mv : Nat) : Int)] 79)).drewN q)) := below_drewN (HB.out.alloc HB.out.size _) q
        go_wp2_with fail
        exact ⟨⟨1, rfl, rfl, .inr ⟨rfl, HR2⟩, HB3⟩, by simp [intOf]⟩
    · have hr : a.row k = true := hr1.out
      have dd : decide (0 < a.n ∧ 0 ≤ hsn k % a.n) = true := by simp; omega
      have nn : (if a.n = 0 then 0 else hsn k % a.n) = hsn k % a.n := if_neg (by omega)
      go_wp2_with fail
      refine (place_any wr.heap.size 0 a.n a.n 0 (hsn k) (some ⟨G true, 0, none⟩) hn2 hh _ (by rw [World.cell?_alloc_new]; rfl) (by rw [World.cell?_alloc_new]; rfl)).mono ?_
      rintro e w2 ⟨rfl, q, rfl⟩
      rw [dd, nn]
      clear dd nn
      obtain ⟨W2, hW2⟩ : ∃ W2, W2 = (wr.alloc (.cells #[.slice (some ⟨G true, 0, none⟩) a.n a.n, .int .i64 0] 79)).drewN q := ⟨_, rfl⟩
      have B2 : Below w.heap.size w W2 := by rw [hW2]; exact below_drewN (HB.out.alloc HB.out.size _) q
      have d0 : W2.cell? ⟨wr.heap.size, 0, none⟩ = some (.slice (some ⟨G true, 0, none⟩) a.n a.n) := by rw [hW2]; show (wr.alloc _).cell? _ = _; rw [World.cell?_alloc_new]; rfl
      rw [← hW2]
      have RR := (HC.out.below B2).row true hn1
      have hn := HC.out.has.nd true (a.at_ k) (by rw [← hr]; exact A.at_lt hok k)
      have hat : a.at_ k < a.n := by have := A.at_lt hok k; rw [hr] at this; exact this
      have ea : hsn k % a.n = a.at_ k := by unfold A.at_; rw [hr]; rfl
      have HR : Hid (RowR W2 o x (G true) (a.cnt true) (E true)) := RR
      have HN : Hid (((E true (a.at_ k)).map Ent.kv |>.map (·.1)).Nodup) := hn
      have HB2 : Hid (Below w.heap.size w W2) := B2
      have hr0 : Hid (a.row k = true) := hr
      obtain ⟨t, ht⟩ : ∃ t, t = a.at_ k := ⟨_, rfl⟩
      have HT : Hid (t = a.at_ k) := ht
      rw [← ht] at hat ea HN
      rw [ea]
      have ti : (t : Int) < ((a.n : Nat) : Int) := by omega
      clear hW2 B2 RR hn hr ht HB ea hsz i0 i1
      go_wp2_with fail
      go_loopw [6] (fun l wi => ∃ pre post, Hid (E true t = pre ++ post) ∧ l = .pointer (some (lnk (G true) t pre)) ∧ Hid (∀ e ∈ pre, e.k ≠ k) ∧ W2 = wi) (fun l _ => remV (G true) (E true t) l)
      case atStart => exact ⟨[], E true t, rfl, rfl, fun e he => (by cases he), rfl⟩
      case round =>
        obtain ⟨pre, post, HE, rfl, HP, rfl⟩ := hrel
        obtain ⟨l1, l2⟩ := HR.out.link (by exact hat) HE.out
        have hch := HR.out.ch t hat
        rw [HE.out] at hch
        have ofind : ∀ (post' : List Ent), post = post' → (post' = [] ∨ ∃ e t, post' = e :: t ∧ e.k = k) → FindP w a E G k W2 (lnk (G true) t pre) := fun post' e h => by
          subst e
          refine ⟨pre, post, ?_, ?_, HP.out, h, HB2.out⟩
          · rw [hr0.out, ← HT.out]; exact HE.out
          · rw [hr0.out, ← HT.out]
        have OF : Hid (∀ (post' : List Ent), post = post' → (post' = [] ∨ ∃ e t, post' = e :: t ∧ e.k = k) → FindP w a E G k W2 (lnk (G true) t pre)) := ofind
        have hrem : Hid (remV (G true) (E true t) (.pointer (some (lnk (G true) t pre))) = post.length) := by
          show _ = _
          unfold remV
          rcases List.eq_nil_or_concat pre with rfl | ⟨p, e, rfl⟩
          · rw [lnk_nil, if_pos (show blk (Value.pointer (some ⟨G true, t, none⟩)) = G true from rfl), HE.out]; rfl
          · simp only [List.concat_eq_append] at HE hch ⊢
            have hch2 := hch
            rw [List.append_assoc, List.singleton_append] at hch
            have he := hch.tail.1
            have hnn := HN.out
            rw [HE.out, List.append_assoc, List.singleton_append] at hnn
            obtain ⟨q1, q2⟩ := hch.apart hnn
            rw [lnk_end, if_neg (fun h => by have h1 := HR.out.og; rw [← (show e.b = G true from h), he.ob] at h1; injection h1 with _ h1; cases h1), HE.out, List.append_assoc, List.singleton_append]
            exact remF_at p e post q1
        clear ofind l2
        obtain ⟨pb, po, hp⟩ : ∃ pb po, lnk (G true) t pre = ⟨pb, po, none⟩ := by
          unfold lnk; split
          · exact ⟨_, _, rfl⟩
          · exact ⟨_, _, rfl⟩
        have HPB : Hid (lnk (G true) t pre = ⟨pb, po, none⟩) := hp
        rw [hp] at l1 ⊢
        clear hp
        cases post with
        | nil =>
          replace l1 : W2.cell? ⟨pb, po, none⟩ = some (.pointer none) := l1
          clear hch
          go_wp2_with fail
          simp only [Exit.noGoto_ret]
          go_ret
          exact ⟨_, rfl, by rw [← HPB.out]; exact OF.out [] rfl (.inl rfl)⟩
        | cons e post =>
          replace l1 : W2.cell? ⟨pb, po, none⟩ = some (.pointer (some ⟨e.b, 0, none⟩)) := l1
          have he := hch.tail.1
          have e0 := he.c0
          have hnn := HN.out
          rw [HE.out] at hnn
          have hap : Hid ((∀ q ∈ pre, q.b ≠ e.b) ∧ ∀ q ∈ post, q.b ≠ e.b) := hch.apart hnn
          have hge : Hid (e.b ≠ G true) := fun h => by have h1 := HR.out.og; rw [← h, he.ob] at h1; injection h1 with _ h1; cases h1
          clear he hch hnn
          by_cases hek : e.k = k
          · have s1 : (e.k.toList == k.toList) = true := by rw [str_beq, hek]; simp
            have HEK : Hid (e.k = k) := hek
            clear hek
            go_wp2_with fail
            simp only [Exit.noGoto_ret]
            go_ret
            exact ⟨_, rfl, by rw [← HPB.out]; exact OF.out _ rfl (.inr ⟨e, post, rfl, HEK.out⟩)⟩
          · have s1 : (e.k.toList == k.toList) = false := by rw [str_beq, decide_eq_false hek]
            have HEK : Hid (e.k ≠ k) := hek
            clear hek
            go_wp2_with fail
            refine ⟨⟨pre ++ [e], post, by show _ = _; rw [HE.out]; simp, by rw [lnk_end], fun q hq => ?_, trivial⟩, ?_⟩
            · rcases List.mem_append.1 hq with hq | hq
              · exact HP.out q hq
              · rw [List.mem_singleton.1 hq]; exact HEK.out
            · have h1 := hrem.out
              rw [HPB.out] at h1
              rw [h1]
              unfold remV
              rw [if_neg (show ¬ (blk (Value.pointer (some ⟨e.b, 2, none⟩)) = G true) from hge.out)]
              show remF _ e.b < _
              rw [HE.out, remF_at pre e post hap.out.1]
              simp
end Go.Proofs.YtfinaichajbnkaaGreatDoor
