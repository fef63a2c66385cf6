/-
  CONTRACTS of the view: has, State, Inc, Slots, Next, New, Few; the reference's NewView and Next.
-/
import Derived.Test.YthoambgkcoeffaaVw
namespace Go.Proofs.Ythoambgkcoeffaa
open Go.RowKit
set_option maxRecDepth 100000
set_option maxHeartbeats 1000000

/-- Is it a slot? -/
def isSlot (l : Vs) (i : Int) : Bool := decide (0 ≤ i ∧ i < l.length)
theorem has_any (X : Nat) (l : Vs) (i : Int) (w : World) (o : Nat → Nat × Nat) (h : IsV w o X l) :
    Calls Try.prog 16 #[.pointer (some ⟨X, 0, none⟩), .int .i64 i] w fun e w' => e = .returned (.bool (isSlot l i)) ∧ w = w' := by
  obtain ⟨g, h⟩ := h
  have c0 := h.c
  obtain ⟨n, hn⟩ : ∃ n, n = l.length := ⟨_, rfl⟩
  have hb : isSlot l i = decide (0 ≤ i ∧ i < n) := by rw [hn]; rfl
  rw [hb]
  rw [← hn] at c0
  clear h hn hb
  by_cases h0 : i < 0
  · have d0 : decide (0 ≤ i) = false := by simp; omega
    have e : decide (0 ≤ i ∧ i < (n : Int)) = false := by simp; omega
    rw [e]
    clear h0 e
    go_enter Try.func16, Try.ntmps16
    go_wp2_with fail
    go_ret
    exact ⟨rfl, rfl⟩
  have d0 : decide (0 ≤ i) = true := by simp; omega
  have e : decide (0 ≤ i ∧ i < (n : Int)) = decide (i < (n : Int)) := by
    apply decide_eq_decide.2; omega
  rw [e]
  clear h0 e
  go_enter Try.func16, Try.ntmps16
  go_wp2_with fail
  go_ret
  exact ⟨rfl, rfl⟩
theorem at_in (l : Vs) {i : Nat} (h : i < l.length) : l.at (i : Int) = l.getD i (0, 0) := by unfold Vs.at; rw [if_pos (by omega), Int.toNat_natCast]
theorem at_out (l : Vs) {i : Int} (h : ¬ (0 ≤ i ∧ i < l.length)) : l.at i = (0, 0) := if_neg h
theorem slot_no {l : Vs} {i : Int} (h : ¬ (0 ≤ i ∧ i < l.length)) : isSlot l i = false := decide_eq_false h
theorem slot_yes {l : Vs} {i : Nat} (h : i < l.length) : isSlot l (i : Int) = true := decide_eq_true (by omega)
theorem state_any (X : Nat) (l : Vs) (i : Int) (w : World) (o : Nat → Nat × Nat) (h : IsV w o X l) :
    Calls Try.prog 9 #[.pointer (some ⟨X, 0, none⟩), .int .i64 i] w fun e w' => e = .returned (.int .i64 (l.at i).1) ∧ w = w' := by
  have HH := hid (has_any X l i w o h)
  by_cases hi : 0 ≤ i ∧ i < l.length
  · obtain ⟨j, rfl⟩ : ∃ j : Nat, i = (j : Int) := ⟨i.toNat, by omega⟩
    have hj : j < l.length := by omega
    obtain ⟨g, h⟩ := h
    have c0 := h.c
    have c1 := (h.at hj).1
    rw [slot_yes hj] at HH
    have HE0 := congrArg (fun p : Int × Int => p.1) (at_in l hj)
    obtain ⟨s, hs⟩ : ∃ s, s = (l.getD j (0, 0)).1 := ⟨_, rfl⟩
    rw [← hs] at c1
    have HE := hid (HE0.trans hs.symm)
    clear HE0 hs
    obtain ⟨n, hn⟩ : ∃ n, n = l.length := ⟨_, rfl⟩
    rw [← hn] at c0 hj
    clear h hn hi
    go_enter Try.func9, Try.ntmps9
    go_wp2_with fail
    refine HH.out.mono ?_
    rintro e w1 ⟨rfl, rfl⟩
    go_wp2_with fail
    go_ret
    exact ⟨ret_int HE.out.symm, rfl⟩
  · rw [slot_no hi] at HH
    have HE := hid (congrArg (fun p : Int × Int => p.1) (at_out l hi))
    clear h hi
    go_enter Try.func9, Try.ntmps9
    go_wp2_with fail
    refine HH.out.mono ?_
    rintro e w1 ⟨rfl, rfl⟩
    go_wp2_with fail
    go_ret
    exact ⟨ret_int HE.out.symm, rfl⟩
theorem inc_any (X : Nat) (l : Vs) (i : Int) (w : World) (o : Nat → Nat × Nat) (h : IsV w o X l) :
    Calls Try.prog 10 #[.pointer (some ⟨X, 0, none⟩), .int .i64 i] w fun e w' => e = .returned (.int .i64 (l.at i).2) ∧ w = w' := by
  have HH := hid (has_any X l i w o h)
  by_cases hi : 0 ≤ i ∧ i < l.length
  · obtain ⟨j, rfl⟩ : ∃ j : Nat, i = (j : Int) := ⟨i.toNat, by omega⟩
    have hj : j < l.length := by omega
    obtain ⟨g, h⟩ := h
    have c0 := h.c
    have c1 := (h.at hj).2.1
    rw [slot_yes hj] at HH
    have HE0 := congrArg (fun p : Int × Int => p.2) (at_in l hj)
    obtain ⟨s, hs⟩ : ∃ s, s = (l.getD j (0, 0)).2 := ⟨_, rfl⟩
    rw [← hs] at c1
    have HE := hid (HE0.trans hs.symm)
    clear HE0 hs
    obtain ⟨n, hn⟩ : ∃ n, n = l.length := ⟨_, rfl⟩
    rw [← hn] at c0 hj
    clear h hn hi
    go_enter Try.func10, Try.ntmps10
    go_wp2_with fail
    refine HH.out.mono ?_
    rintro e w1 ⟨rfl, rfl⟩
    go_wp2_with fail
    go_ret
    exact ⟨ret_int HE.out.symm, rfl⟩
  · rw [slot_no hi] at HH
    have HE := hid (congrArg (fun p : Int × Int => p.2) (at_out l hi))
    clear h hi
    go_enter Try.func10, Try.ntmps10
    go_wp2_with fail
    refine HH.out.mono ?_
    rintro e w1 ⟨rfl, rfl⟩
    go_wp2_with fail
    go_ret
    exact ⟨ret_int HE.out.symm, rfl⟩
theorem slots_any (X : Nat) (l : Vs) (w : World) (o : Nat → Nat × Nat) (h : IsV w o X l) :
    Calls Try.prog 11 #[.pointer (some ⟨X, 0, none⟩)] w fun e w' => e = .returned (.int .i64 (l.length : Int)) ∧ w = w' := by
  obtain ⟨g, h⟩ := h
  have c0 := h.c
  obtain ⟨n, hn⟩ : ∃ n, n = l.length := ⟨_, rfl⟩
  rw [← hn] at c0 ⊢
  clear h hn
  go_enter Try.func11, Try.ntmps11
  go_wp2_with fail
  go_ret
  exact ⟨rfl, rfl⟩
/-- What Next comes to, as a post. -/
def PN (X : Nat) (l : Vs) (i e : Int) (w : World) (o : Nat → Nat × Nat) (x : Ending) (w' : World) : Prop := x = .returned (.bool (l.nxt i e).1) ∧ IsV w' o X (l.nxt i e).2 ∧ Fr (· = (10, 1)) o o w w'
theorem pn_no {X : Nat} {l : Vs} {i e : Int} {w : World} {o : Nat → Nat × Nat} (h : IsV w o X l) (hn : l.nxt i e = (false, l)) : PN X l i e w o (.returned (.bool false)) w := by
  unfold PN; rw [hn]; exact ⟨rfl, h, Fr.refl _ _ _⟩
theorem pn_yes {X : Nat} {l l' : Vs} {i e : Int} {w w' : World} {o : Nat → Nat × Nat} {g : Nat} (h : IsG w' o X l' g ∧ Fr (· = (10, 1)) o o w w') (hn : l.nxt i e = (true, l')) : PN X l i e w o (.returned (.bool true)) w' := by
  unfold PN; rw [hn]; exact ⟨rfl, ⟨g, h.1⟩, h.2⟩
theorem next_any (X : Nat) (l : Vs) (i e : Int) (k : Int) (w : World) (o : Nat → Nat × Nat) (h : IsV w o X l) (hk : l.ok k) (hk0 : 0 ≤ k) (hk1 : k ≤ 1000) :
    Calls Try.prog 8 #[.pointer (some ⟨X, 0, none⟩), .int .i64 i, .int .i64 e] w (PN X l i e w o) := by
  have HH := hid (has_any X l i w o h)
  by_cases hi : ¬ (0 ≤ i ∧ i < l.length)
  · rw [slot_no hi] at HH
    have HE := hid (pn_no (e := e) h (Vs.out hi e))
    clear h hi hk
    go_enter Try.func8, Try.ntmps8
    go_wp2_with fail
    refine HH.out.mono ?_
    rintro e w1 ⟨rfl, rfl⟩
    go_wp2_with fail
    go_ret
    exact HE.out
  replace hi := Decidable.not_not.1 hi
  obtain ⟨j, rfl⟩ : ∃ j : Nat, i = (j : Int) := ⟨i.toNat, by omega⟩
  have hj : j < l.length := by omega
  have hh := h
  obtain ⟨g, h⟩ := h
  rw [slot_yes hj] at HH
  obtain ⟨⟨s, c⟩, hp⟩ : ∃ p, p = l.getD j (0, 0) := ⟨_, rfl⟩
  have a0 := h.at hj
  have ok := hk.getD hk0 j
  rw [← hp] at a0 ok
  obtain ⟨c1, c2, z1, z2⟩ := a0
  have c0 := h.c
  obtain ⟨os, oc0, ock⟩ := ok
  have hN : ∀ q, stp (s, c) e = some q → l.nxt (j : Int) e = (true, l.set j q) := fun q hq => Vs.yes hj (by rw [← hp]; exact hq)
  have hZ : stp (s, c) e = none → l.nxt (j : Int) e = (false, l) := fun hq => Vs.no hj (by rw [← hp]; exact hq)
  have S0 : ∀ a, IsG (w.setCell ⟨g, j * 2, none⟩ (.int .i64 a)) o X (l.set j (a, c)) g ∧ Fr (· = (10, 1)) o o w (w.setCell ⟨g, j * 2, none⟩ (.int .i64 a)) := fun a => by
    have := h.set0 hj a
    rw [← hp] at this
    exact this
  have S1 := fun a b => h.set1 hj a b
  clear hk hp
  by_cases e1 : e = 1
  · subst e1
    have HE := hid (pn_yes (S1 0 (c + 1)) (hN _ rfl))
    obtain ⟨n, hn⟩ : ∃ n, n = l.length := ⟨_, rfl⟩
    rw [← hn] at c0 hj
    have d1 : (w.setCell ⟨g, j * 2, none⟩ (.int .i64 0)).cell? ⟨g, j * 2 + 1, none⟩ = some (.int .i64 c) := (World.cell?_setCell_other _ _ _ _ (fun e => by injection e with _ e; omega)).trans c2
    clear h hh hn hN hZ S0 S1 hi os
    go_enter Try.func8, Try.ntmps8
    go_wp2_with fail
    refine HH.out.mono ?_
    rintro e w1 ⟨rfl, rfl⟩
    go_wp2_with fail
    go_ret
    exact HE.out
  have n1 : (e == 1) = false := by simp [e1]
  by_cases e2 : e = 2
  · subst e2
    by_cases hs : s = 0
    · subst hs
      by_cases hc : c = 0
      · subst hc
        have HE := hid (pn_no hh (hZ rfl))
        obtain ⟨n, hn⟩ : ∃ n, n = l.length := ⟨_, rfl⟩
        rw [← hn] at c0 hj
        clear h hh hn hN hZ S0 S1 hi os e1
        go_enter Try.func8, Try.ntmps8
        go_wp2_with fail
        refine HH.out.mono ?_
        rintro e w1 ⟨rfl, rfl⟩
        go_wp2_with fail
        go_ret
        exact HE.out
      · have hc' : (c == 0) = false := by simp [hc]
        have HE := hid (pn_yes (S0 1) (hN (1, c) (by simp [stp, hc])))
        obtain ⟨n, hn⟩ : ∃ n, n = l.length := ⟨_, rfl⟩
        rw [← hn] at c0 hj
        clear h hh hn hN hZ S0 S1 hi os e1 hc
        go_enter Try.func8, Try.ntmps8
        go_wp2_with fail
        refine HH.out.mono ?_
        rintro e w1 ⟨rfl, rfl⟩
        go_wp2_with fail
        go_ret
        exact HE.out
    · have hs' : (s != 0) = true := by simp [hs]
      have HE := hid (pn_no hh (hZ (by simp [stp, hs])))
      obtain ⟨n, hn⟩ : ∃ n, n = l.length := ⟨_, rfl⟩
      rw [← hn] at c0 hj
      clear h hh hn hN hZ S0 S1 hi os e1 hs
      go_enter Try.func8, Try.ntmps8
      go_wp2_with fail
      refine HH.out.mono ?_
      rintro e w1 ⟨rfl, rfl⟩
      go_wp2_with fail
      go_ret
      exact HE.out
  have n2 : (e == 2) = false := by simp [e2]
  by_cases e3 : e = 3
  · subst e3
    by_cases hs : s = 1
    · subst hs
      have HE := hid (pn_yes (S0 2) (hN (2, c) rfl))
      obtain ⟨n, hn⟩ : ∃ n, n = l.length := ⟨_, rfl⟩
      rw [← hn] at c0 hj
      clear h hh hn hN hZ S0 S1 hi os e1 e2
      go_enter Try.func8, Try.ntmps8
      go_wp2_with fail
      refine HH.out.mono ?_
      rintro e w1 ⟨rfl, rfl⟩
      go_wp2_with fail
      go_ret
      exact HE.out
    · have hs' : (s != 1) = true := by simp [hs]
      have HE := hid (pn_no hh (hZ (by simp [stp, hs])))
      obtain ⟨n, hn⟩ : ∃ n, n = l.length := ⟨_, rfl⟩
      rw [← hn] at c0 hj
      clear h hh hn hN hZ S0 S1 hi os e1 e2 hs
      go_enter Try.func8, Try.ntmps8
      go_wp2_with fail
      refine HH.out.mono ?_
      rintro e w1 ⟨rfl, rfl⟩
      go_wp2_with fail
      go_ret
      exact HE.out
  have n3 : (e == 3) = false := by simp [e3]
  have HE := hid (pn_no hh (hZ (by simp [stp, e1, e2, e3])))
  obtain ⟨n, hn⟩ : ∃ n, n = l.length := ⟨_, rfl⟩
  rw [← hn] at c0 hj
  clear h hh hn hN hZ S0 S1 hi os e1 e2 e3
  go_enter Try.func8, Try.ntmps8
  go_wp2_with fail
  refine HH.out.mono ?_
  rintro e w1 ⟨rfl, rfl⟩
  go_wp2_with fail
  go_ret
  exact HE.out
end Go.Proofs.Ythoambgkcoeffaa
