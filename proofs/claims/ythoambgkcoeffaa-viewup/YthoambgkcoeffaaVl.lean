/-
  A LAW's MEMORY; Within; chapter 18's runs.
-/
import Derived.Test.YthoambgkcoeffaaVf
namespace Go.Proofs.Ythoambgkcoeffaa
open Go.RowKit
theorem tmod_bd (n : Int) (h : Nat) : -((h : Int) + 1) < n.tmod ((h : Int) + 1) ∧ n.tmod ((h : Int) + 1) < (h : Int) + 1 := by
  have h1 := Int.tmod_lt_of_pos n (show (0 : Int) < (h : Int) + 1 by omega)
  have h2 := Int.lt_tmod_of_pos n (show (0 : Int) < (h : Int) + 1 by omega)
  exact ⟨h2, h1⟩
/-- What Within answers. -/
def wi (n L H : Int) : Int := let q := n.tmod (H - L + 1); if q < 0 then L + (q + H - L + 1) else L + q
theorem wi_bd (n L H : Int) (hLH : L ≤ H) : L ≤ wi n L H ∧ wi n L H ≤ H := by
  obtain ⟨d, hd⟩ : ∃ d : Nat, H - L = (d : Int) := ⟨(H - L).toNat, by omega⟩
  obtain ⟨q1, q2⟩ := tmod_bd n d
  unfold wi
  rw [hd]
  simp only
  split <;> omega
set_option maxRecDepth 100000 in
set_option maxHeartbeats 400000 in
/-- Within: a number of the bounds. -/
theorem within_any (n L H : Int) (hL : -1000 ≤ L) (hLH : L ≤ H) (hH : H ≤ 100000000) (w : World) :
    Calls Try.prog 15 #[.int .i64 n, .int .i64 L, .int .i64 H] w fun e w' => e = .returned (.int .i64 (wi n L H)) ∧ w = w' := by
  obtain ⟨d, hd⟩ : ∃ d : Nat, H - L = (d : Int) := ⟨(H - L).toNat, by omega⟩
  have hHL : H = L + (d : Int) := by omega
  subst hHL
  obtain ⟨q1, q2⟩ := tmod_bd n d
  have HWI : Hid (wi n L (L + (d : Int)) = if n.tmod ((d : Int) + 1) < 0 then L + (n.tmod ((d : Int) + 1) + (L + d) - L + 1) else L + n.tmod ((d : Int) + 1)) := by
    show _ = _; unfold wi; rw [show L + (d : Int) - L + 1 = (d : Int) + 1 by omega]
  clear hd
  obtain ⟨q, hq⟩ : ∃ q, n.tmod ((d : Int) + 1) = q := ⟨_, rfl⟩
  rw [hq] at q1 q2 HWI
  have e1 : L + (d : Int) - L + 1 = (d : Int) + 1 := by omega
  have hne : ((d : Int) + 1 == 0) = false := by simp; omega
  have hne2 : ¬ ((d : Int) + 1 = -1) := by omega
  have hne3 : ¬ ((d : Int) + 1 = 0) := by omega
  by_cases q0 : q < 0
  · go_enter Try.func15, Try.ntmps15
    go_wp2
    go_ret
    exact ⟨ret_int (by rw [HWI.out, if_pos q0]), rfl⟩
  · go_enter Try.func15, Try.ntmps15
    go_wp2
    go_ret
    exact ⟨ret_int (by rw [HWI.out, if_neg (by omega)]), rfl⟩

def o00 : Nat → Nat × Nat := fun _ => (0, 0)
/-- Marks of what a law made. -/
def TP (t : Nat × Nat) : Prop := t.1 ≠ 0
theorem nTP0 : ¬ TP (0, 0) := fun h => h rfl
/-- A law's memory behind w0: the view at X; what there was has not turned. -/
structure Lv (w0 W : World) (o : Nat → Nat × Nat) (X : Nat) (l : Vs) : Prop where
  I : IsV W o X l
  G : Fr TP o00 o w0 W
theorem Lv.fin {w0 W : World} {o : Nat → Nat × Nat} {X : Nat} {l : Vs} (h : Lv w0 W o X l) : Below w0.heap.size w0 W := h.G.below (Nat.le_refl _) (fun _ _ => nTP0)
theorem Lv.below {w0 W W' : World} {o : Nat → Nat × Nat} {X : Nat} {l : Vs} (h : Lv w0 W o X l) (b : Below W.heap.size W W') : Lv w0 W' o X l := ⟨h.I.below b, h.G.trans (Fr.ofBelow TP o b)⟩
theorem lv_new (n : Nat) (h1 : 1 ≤ n) (h2 : n ≤ 12) (N : Int) (hN : N = (n : Int)) (w : World) : Calls Try.prog 7 #[.int .i64 N] w fun e w' => ∃ X o, e = .returned (.tuple #[.pointer (some ⟨X, 0, none⟩), .int .i64 0]) ∧ Lv w w' o X (nw n) :=
  (new_yes n h1 h2 N hN w o00).mono (by
    rintro e w' ⟨X, o', rfl, I, g⟩
    exact ⟨X, o', rfl, I, g.mono (fun _ e => e.elim)⟩)
theorem lv_next {w0 W : World} {o : Nat → Nat × Nat} {X : Nat} {l l' : Vs} {k : Int} {b : Bool} (h : Lv w0 W o X l) (i e : Int) (hk : l.ok k) (hk0 : 0 ≤ k) (hk1 : k ≤ 1000) (hn : l.nxt i e = (b, l')) :
    Calls Try.prog 8 #[.pointer (some ⟨X, 0, none⟩), .int .i64 i, .int .i64 e] W fun x w' => x = .returned (.bool b) ∧ Lv w0 w' o X l' :=
  (next_any X l i e k W o h.I hk hk0 hk1).mono (by
    rintro x w' ⟨rfl, I, g⟩
    rw [hn] at I ⊢
    exact ⟨rfl, I, h.G.trans (g.mono (fun t e => by rw [e]; intro h; cases h))⟩)
theorem lv_state {w0 W : World} {o : Nat → Nat × Nat} {X : Nat} {l : Vs} (h : Lv w0 W o X l) (i z : Int) (hz : (l.at i).1 = z) : Calls Try.prog 9 #[.pointer (some ⟨X, 0, none⟩), .int .i64 i] W fun x w' => x = .returned (.int .i64 z) ∧ W = w' := by
  rw [← hz]; exact state_any X l i W o h.I
theorem lv_inc {w0 W : World} {o : Nat → Nat × Nat} {X : Nat} {l : Vs} (h : Lv w0 W o X l) (i z : Int) (hz : (l.at i).2 = z) : Calls Try.prog 10 #[.pointer (some ⟨X, 0, none⟩), .int .i64 i] W fun x w' => x = .returned (.int .i64 z) ∧ W = w' := by
  rw [← hz]; exact inc_any X l i W o h.I
/-- Few, of states written out. -/
theorem lv_few {w0 W : World} {o : Nat → Nat × Nat} {X : Nat} {l : Vs} (h : Lv w0 W o X l) (s : List Int) (cs : Array Value) (n : Nat) (hc : cs = (ic s).toArray) (hn : n = s.length) (hs : s.length ≤ 10) (z : Int) (hz : z = (l.few s : Int)) :
    Calls Try.prog 12 #[.pointer (some ⟨X, 0, none⟩), .slice (some ⟨W.heap.size, 0, none⟩) n n] (W.alloc (.cells cs 3)) fun x w' => x = .returned (.int .i64 z) ∧ Lv w0 w' o X l := by
  subst hc hn
  have b := bel_alloc W (.cells (ic s).toArray 3)
  refine (few_any X l _ s (by omega) z hz (W.alloc (.cells (ic s).toArray 3)) o (h.I.below b) (IR.new W s)).mono ?_
  rintro e w' ⟨rfl, b2⟩
  exact ⟨rfl, h.below (b.trans (b2.mono b.size))⟩
theorem few_nil (l : Vs) : l.few [] = 0 := by
  unfold Vs.few
  rw [List.filter_eq_nil_iff.2 (fun p _ => by simp)]; rfl
theorem lv_few0 {w0 W : World} {o : Nat → Nat × Nat} {X : Nat} {l : Vs} (h : Lv w0 W o X l) : Calls Try.prog 12 #[.pointer (some ⟨X, 0, none⟩), .slice none 0 0] W fun x w' => x = .returned (.int .i64 0) ∧ Lv w0 w' o X l := by
  refine (few_any X l (.slice none 0 0) [] (by simp) 0 (by rw [few_nil]; rfl) W o h.I (.inl ⟨rfl, _, _, rfl⟩)).mono ?_
  rintro e w' ⟨rfl, b2⟩
  exact ⟨rfl, h.below b2⟩
theorem ok2 (a b c d : Int) (k : Int) (h : (a = 0 ∨ a = 1 ∨ a = 2) ∧ 0 ≤ b ∧ b ≤ k ∧ (c = 0 ∨ c = 1 ∨ c = 2) ∧ 0 ≤ d ∧ d ≤ k) : Vs.ok [(a, b), (c, d)] k := by
  intro p hp
  simp at hp
  rcases hp with rfl | rfl
  · exact ⟨h.1, h.2.1, h.2.2.1⟩
  · exact h.2.2.2
set_option maxRecDepth 100000 in
set_option maxHeartbeats 1000000 in
theorem runs_any (w : World) : Calls Try.prog 3 #[] w fun e w' => e = .returned (.bool true) ∧ Below w.heap.size w w' := by
  go_enter Try.func3, Try.ntmps3
  go_wp2_with fail
  refine (lv_new 2 (by omega) (by omega) 2 rfl _).mono ?_
  rintro e w1 ⟨X, o, rfl, L0⟩
  have H0 := hid L0
  clear L0
  go_wp2_with fail
  refine (lv_next H0.out 0 2 (l' := [(0, 0), (0, 0)]) (b := false) (k := 0) (nw_ok 2) (by omega) (by omega) (by decide)).mono ?_
  rintro e w2 ⟨rfl, L1⟩
  have H1 := hid L1
  clear L1 H0
  go_wp2_with fail
  refine (lv_next H1.out 0 1 (l' := [(0, 1), (0, 0)]) (b := true) (k := 5) (ok2 _ _ _ _ _ (by omega)) (by omega) (by omega) (by decide)).mono ?_
  rintro e w3 ⟨rfl, L1⟩
  have H2 := hid L1
  clear L1 H1
  go_wp2_with fail
  refine (lv_next H2.out 0 1 (l' := [(0, 2), (0, 0)]) (b := true) (k := 5) (ok2 _ _ _ _ _ (by omega)) (by omega) (by omega) (by decide)).mono ?_
  rintro e w4 ⟨rfl, L1⟩
  have H3 := hid L1
  clear L1 H2
  go_wp2_with fail
  refine (lv_next H3.out 0 2 (l' := [(1, 2), (0, 0)]) (b := true) (k := 5) (ok2 _ _ _ _ _ (by omega)) (by omega) (by omega) (by decide)).mono ?_
  rintro e w5 ⟨rfl, L1⟩
  have H4 := hid L1
  clear L1 H3
  go_wp2_with fail
  refine (lv_next H4.out 0 3 (l' := [(2, 2), (0, 0)]) (b := true) (k := 5) (ok2 _ _ _ _ _ (by omega)) (by omega) (by omega) (by decide)).mono ?_
  rintro e w6 ⟨rfl, L1⟩
  have H5 := hid L1
  clear L1 H4
  go_wp2_with fail
  refine (lv_next H5.out 0 1 (l' := [(0, 3), (0, 0)]) (b := true) (k := 5) (ok2 _ _ _ _ _ (by omega)) (by omega) (by omega) (by decide)).mono ?_
  rintro e w7 ⟨rfl, L1⟩
  have H6 := hid L1
  clear L1 H5
  go_wp2_with fail
  refine (lv_state H6.out 0 0 rfl).mono ?_
  rintro e w8 ⟨rfl, rfl⟩
  go_wp2_with fail
  refine (lv_inc H6.out 0 3 rfl).mono ?_
  rintro e w8 ⟨rfl, rfl⟩
  go_wp2_with fail
  refine (slots_any X _ _ o H6.out.I).mono ?_
  rintro e w8 ⟨rfl, rfl⟩
  go_wp2_with fail
  refine (lv_few H6.out [0] _ _ rfl rfl (by decide) 2 (by decide)).mono ?_
  rintro e w8 ⟨rfl, L1⟩
  have H7 := hid L1
  clear L1 H6
  go_wp2_with fail
  go_ret
  exact ⟨rfl, H7.out.fin⟩
end Go.Proofs.Ythoambgkcoeffaa
