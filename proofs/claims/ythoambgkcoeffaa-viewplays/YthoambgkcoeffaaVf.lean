/-
  FEW: how many slots are in one of the states; the reference's Next.
-/
import Derived.Test.YthoambgkcoeffaaVn
namespace Go.Proofs.Ythoambgkcoeffaa
open Go.RowKit
set_option maxRecDepth 100000
set_option maxHeartbeats 1000000

/-- Numbers lie at V. -/
def IR (w : World) (V : Value) (l : List Int) : Prop :=
  (l = [] ∧ ∃ A c, V = .slice A 0 c) ∨ ∃ g cap, V = .slice (some ⟨g, 0, none⟩) l.length cap ∧ l.length ≤ cap ∧ g < w.heap.size ∧ ∀ j u, l[j]? = some u → w.cell? ⟨g, j, none⟩ = some (.int .i64 u)
theorem IR.form {w : World} {V : Value} {l : List Int} (h : IR w V l) : ∃ a c, V = .slice a l.length c ∧ l.length ≤ c := by
  rcases h with ⟨rfl, A, c, rfl⟩ | ⟨g, cap, rfl, h1, _⟩
  · exact ⟨A, c, rfl, Nat.zero_le _⟩
  · exact ⟨_, cap, rfl, h1⟩
theorem IR.below {w w' : World} {V : Value} {l : List Int} (h : IR w V l) (b : Below w.heap.size w w') : IR w' V l := by
  rcases h with h | ⟨g, cap, e, h1, h2, h3⟩
  · exact .inl h
  · exact .inr ⟨g, cap, e, h1, Nat.lt_of_lt_of_le h2 b.size, fun j u hu => (World.cell?_of_block (a := ⟨g, j, none⟩) (b.block g h2)).trans (h3 j u hu)⟩
theorem IR.read {w : World} {a : Option Addr} {n c : Nat} {l : List Int} (h : IR w (.slice a n c) l) {j : Nat} {u : Int} (hu : l[j]? = some u) : ∃ g, a = some ⟨g, 0, none⟩ ∧ g < w.heap.size ∧ w.cell? ⟨g, j, none⟩ = some (.int .i64 u) := by
  rcases h with ⟨rfl, _⟩ | ⟨g, cap, e, h1, h2, h3⟩
  · cases hu
  · injection e with e1
    exact ⟨g, e1, h2, h3 j u hu⟩
/-- Numbers in a new block. -/
theorem IR.new (w : World) (l : List Int) : IR (w.alloc (.cells (ic l).toArray 3)) (.slice (some ⟨w.heap.size, 0, none⟩) l.length l.length) l :=
  .inr ⟨_, _, rfl, Nat.le_refl _, by simp, fun j u hu => by rw [World.cell?_alloc_new, List.getElem?_toArray]; unfold ic; rw [List.getElem?_map, hu]; rfl⟩
/-- Where a number stands. -/
def ixf (x : Int) : List Int → Nat → Int
  | [], _ => -1
  | y :: l, i => if x = y then (i : Int) else ixf x l (i + 1)
theorem ixf_drop (x : Int) (l : List Int) (j : Nat) (u : Int) (h : l[j]? = some u) : ixf x (l.drop j) j = if x = u then (j : Int) else ixf x (l.drop (j + 1)) (j + 1) := by
  obtain ⟨hj, e⟩ := List.getElem?_eq_some_iff.1 h
  rw [List.drop_eq_getElem_cons hj, e]
  rfl
theorem ixf_in (x : Int) : ∀ (l : List Int) (i : Nat), decide (0 ≤ ixf x l i) = l.contains x
  | [], i => rfl
  | y :: l, i => by
    unfold ixf
    rw [List.contains_cons]
    by_cases h : x = y
    · rw [if_pos h, h]; simp
    · rw [if_neg h, ixf_in x l (i + 1)]; simp [h]
theorem index_any {V : Value} (l : List Int) (x : Int) (hn : l.length ≤ 1000000) (w : World) (h : IR w V l) :
    Calls Try.prog 18 #[V, .int .i64 x] w fun e w' => e = .returned (.int .i64 (ixf x l 0)) ∧ w = w' := by
  obtain ⟨a1, c1, rfl, _⟩ := h.form
  obtain ⟨n, hnn⟩ : ∃ n, n = l.length := ⟨_, rfl⟩
  rw [← hnn] at h hn ⊢
  have H1 : Hid (IR w (.slice a1 n c1) l) := h
  have HN : Hid (n = l.length) := hnn
  clear h hnn
  go_enter Try.func18, Try.ntmps18
  go_wp2_with fail
  go_loopw [8] (fun i wr => ∃ j : Nat, j ≤ n ∧ i = .int .i64 (j : Int) ∧ Hid (ixf x l 0 = ixf x (l.drop j) j) ∧ w = wr) (fun i _ => n - (intOf i).toNat)
  case atStart => exact ⟨0, by omega, rfl, rfl, rfl⟩
  case round =>
    obtain ⟨j, hj, rfl, HE, rfl⟩ := hrel
    by_cases hlt : j < n
    · obtain ⟨k, hk⟩ : ∃ k, l[j]? = some k := ⟨_, List.getElem?_eq_getElem (by rw [← HN.out]; exact hlt)⟩
      obtain ⟨g1, e1, _, d1⟩ := H1.out.read hk
      subst e1
      have HE2 : Hid (ixf x l 0 = if x = k then (j : Int) else ixf x (l.drop (j + 1)) (j + 1)) := HE.out.trans (ixf_drop x l j k hk)
      have hi1 : (j : Int) < (n : Int) := by omega
      clear hk HE
      by_cases hx : x = k
      · have HE3 : Hid (ixf x l 0 = (j : Int)) := HE2.out.trans (if_pos hx)
        have hxk : (x == k) = true := by simp [hx]
        clear hx
        go_wp2_with fail
        go_ret
        exact ⟨ret_int HE3.out.symm, rfl⟩
      · have HE3 : Hid (ixf x l 0 = ixf x (l.drop (j + 1)) (j + 1)) := HE2.out.trans (if_neg hx)
        have hxk : (x == k) = false := by simp [hx]
        clear hx
        go_wp2_with fail
        exact ⟨⟨j + 1, by omega, by go_num, HE3, trivial⟩, by simp [intOf]; omega⟩
    · have hjn : j = n := by omega
      have HE2 : Hid (ixf x l 0 = -1) := HE.out.trans (by rw [hjn, HN.out, List.drop_length]; rfl)
      clear hjn HE
      go_wp2_with fail
      go_ret
      exact ⟨ret_int HE2.out.symm, rfl⟩
theorem contains_any {V : Value} (l : List Int) (x : Int) (b : Bool) (hb : l.contains x = b) (hn : l.length ≤ 1000000) (w : World) (h : IR w V l) :
    Calls Try.prog 17 #[V, .int .i64 x] w fun e w' => e = .returned (.bool b) ∧ w = w' := by
  have HI := hid (index_any l x hn w h)
  obtain ⟨a1, c1, rfl, _⟩ := h.form
  obtain ⟨z, hz⟩ : ∃ z, z = ixf x l 0 := ⟨_, rfl⟩
  have hzb : decide (0 ≤ z) = b := by rw [hz, ixf_in]; exact hb
  rw [← hz] at HI
  clear hz h hb
  go_enter Try.func17, Try.ntmps17
  go_wp2_with fail
  refine HI.out.mono ?_
  rintro e w1 ⟨rfl, rfl⟩
  cases b <;> (go_wp2_with fail; go_ret; exact ⟨rfl, rfl⟩)
theorem bel_alloc (w : World) (ob : Obj) : Below w.heap.size w (w.alloc ob) := (Fr.alloc (fun _ => False) (fun _ => (0, 0)) w ob).below (Nat.le_refl _) (fun _ _ => id)
/-- How many are in one of the states. -/
def Vs.few (l : Vs) (s : List Int) : Nat := (l.filter fun p => s.contains p.1).length
theorem few_succ (l : Vs) (s : List Int) (j : Nat) (h : j < l.length) : Vs.few (l.take (j + 1)) s = Vs.few (l.take j) s + (if s.contains (l.getD j (0, 0)).1 then 1 else 0) := by
  have e : l.take (j + 1) = l.take j ++ [l.getD j (0, 0)] := by
    rw [List.take_succ_eq_append_getElem h, List.getD_eq_getElem?_getD, List.getElem?_eq_getElem h]; rfl
  unfold Vs.few
  rw [e, List.filter_append, List.length_append]
  congr 1
  by_cases hc : s.contains (l.getD j (0, 0)).1 = true
  · rw [List.filter_cons_of_pos (by exact hc), if_pos hc]; rfl
  · rw [List.filter_cons_of_neg (by exact hc), if_neg hc]; rfl
theorem few_any (X : Nat) (l : Vs) (V : Value) (s : List Int) (hs : s.length ≤ 1000000) (z : Int) (hz : z = (l.few s : Int)) (w : World) (o : Nat → Nat × Nat) (h : IsV w o X l) (hV : IR w V s) :
    Calls Try.prog 12 #[.pointer (some ⟨X, 0, none⟩), V] w fun e w' => e = .returned (.int .i64 z) ∧ Below w.heap.size w w' := by
  obtain ⟨g, h⟩ := h
  obtain ⟨a1, c1, rfl, _⟩ := hV.form
  obtain ⟨n, hn⟩ : ∃ n, n = l.length := ⟨_, rfl⟩
  have c0 := h.c
  have hn12 := h.few
  rw [← hn] at c0 hn12
  have HL := hid hn
  have HG := hid h
  have HV := hid hV
  have HZ := hid hz
  have HS := hid hs
  clear h hV hn hz hs
  obtain ⟨m, hm⟩ : ∃ m, m = s.length := ⟨_, rfl⟩
  rw [← hm] at HV ⊢
  clear hm
  go_enter Try.func12, Try.ntmps12
  go_wp2_with fail
  go_loopw [5, 13] (fun f i wr => ∃ j : Nat, j ≤ n ∧ i = .int .i64 (j : Int) ∧ (∃ q : Nat, q ≤ j ∧ f = .int .i64 (q : Int) ∧ Hid (q = Vs.few (l.take j) s)) ∧ Hid (Below w.heap.size w wr)) (fun _ i _ => n - (intOf i).toNat)
  case atStart => exact ⟨0, by omega, rfl, ⟨0, by omega, rfl, rfl⟩, Below.refl _ _⟩
  case round =>
    obtain ⟨j, hj, rfl, ⟨q, hq, rfl, HQ⟩, HB⟩ := hrel
    by_cases hlt : j < n
    · have hjl : j < l.length := by rw [← HL.out]; exact hlt
      obtain ⟨d1, d2, _, _⟩ := HG.out.at hjl
      have e1 : wr.cell? ⟨g, j * 2, none⟩ = some (.int .i64 (l.getD j (0, 0)).1) := (World.cell?_of_block (a := ⟨g, j * 2, none⟩) (HB.out.block g (World.block_lt_of_cell? _ _ d1))).trans d1
      have e2 : wr.cell? ⟨g, j * 2 + 1, none⟩ = some (.int .i64 (l.getD j (0, 0)).2) := (World.cell?_of_block (a := ⟨g, j * 2 + 1, none⟩) (HB.out.block g (World.block_lt_of_cell? _ _ d2))).trans d2
      have HF := hid (few_succ l s j hjl)
      obtain ⟨b, hb⟩ : ∃ b, s.contains (l.getD j (0, 0)).1 = b := ⟨_, rfl⟩
      obtain ⟨x, hx⟩ : ∃ x, x = (l.getD j (0, 0)).1 := ⟨_, rfl⟩
      obtain ⟨y, hy⟩ : ∃ y, y = (l.getD j (0, 0)).2 := ⟨_, rfl⟩
      rw [hb] at HF
      rw [← hx] at e1 hb
      rw [← hy] at e2
      have HB2 : Hid (Below w.heap.size w (wr.alloc (.cells #[.int .i64 x, .int .i64 y] 44))) := HB.out.trans ((bel_alloc wr _).mono HB.out.size)
      have HC := hid (contains_any s x b hb HS.out _ (HV.out.below HB2.out))
      have hi1 : (j : Int) < (n : Int) := by omega
      clear d1 d2 hx hy hjl hb HB
      go_wp2_with fail
      refine HC.out.mono ?_
      rintro e w4 ⟨rfl, rfl⟩
      have HQ2 := hid (HF.out.trans (congrArg (· + (if b = true then 1 else 0)) HQ.out.symm))
      clear HC HF HQ
      cases b
      · go_wp2_with fail
        exact ⟨⟨j + 1, by omega, by go_num, ⟨q, by omega, rfl, HQ2.out.symm⟩, HB2⟩, by simp [intOf]; omega⟩
      · go_wp2_with fail
        exact ⟨⟨j + 1, by omega, by go_num, ⟨q + 1, by omega, by go_num, HQ2.out.symm⟩, HB2⟩, by simp [intOf]; omega⟩
    · have hjn : j = n := by omega
      have HQ2 : Hid ((q : Int) = z) := by
        show _ = _
        rw [HZ.out, HQ.out, hjn, HL.out, List.take_length]
      clear hjn HQ
      go_wp2_with fail
      go_ret
      exact ⟨ret_int HQ2.out, HB.out⟩
/-- What the reference's Next comes to. -/
def RN (Y : Nat) (l : Vs) (i e : Int) (w : World) (o : Nat → Nat × Nat) (x : Ending) (w' : World) : Prop := x = .returned (.bool (l.nxt i e).1) ∧ IsR w' o Y (l.nxt i e).2 ∧ Fr TR o o w w'
theorem rn_no {Y : Nat} {l : Vs} {i e : Int} {w : World} {o : Nat → Nat × Nat} (h : IsR w o Y l) (hn : l.nxt i e = (false, l)) : RN Y l i e w o (.returned (.bool false)) w := by
  unfold RN; rw [hn]; exact ⟨rfl, h, Fr.refl _ _ _⟩
theorem rn_yes {Y : Nat} {l l' : Vs} {i e : Int} {w w' : World} {o : Nat → Nat × Nat} {g h : Nat} (k : IsH w' o Y l' g h ∧ Fr TR o o w w') (hn : l.nxt i e = (true, l')) : RN Y l i e w o (.returned (.bool true)) w' := by
  unfold RN; rw [hn]; exact ⟨rfl, ⟨g, h, k.1⟩, k.2⟩
theorem rnext_any (Y : Nat) (l : Vs) (i e : Int) (k : Int) (w : World) (o : Nat → Nat × Nat) (h : IsR w o Y l) (hk : l.ok k) (hk0 : 0 ≤ k) (hk1 : k ≤ 1000) :
    Calls Try.prog 14 #[.pointer (some ⟨Y, 0, none⟩), .int .i64 i, .int .i64 e] w (RN Y l i e w o) := by
  have hh := h
  obtain ⟨g, g2, h⟩ := h
  have c0 := h.c0
  have b0 := h.c1
  obtain ⟨n, hn⟩ : ∃ n, n = l.length := ⟨_, rfl⟩
  rw [← hn] at c0 b0
  by_cases hi : ¬ (0 ≤ i ∧ i < l.length)
  · have HE := hid (rn_no (e := e) hh (Vs.out hi e))
    rw [← hn] at hi
    clear hk h hh hn
    by_cases h0 : i < 0
    · have d0 : decide (i < 0) = true := by simp [h0]
      clear hi h0
      go_enter Try.func14, Try.ntmps14
      go_wp2_with fail
      go_ret
      exact HE.out
    · have d0 : decide (i < 0) = false := by simp; omega
      have d1 : decide ((n : Int) ≤ i) = true := by simp; omega
      clear hi h0
      go_enter Try.func14, Try.ntmps14
      go_wp2_with fail
      go_ret
      exact HE.out
  replace hi := Decidable.not_not.1 hi
  obtain ⟨j, rfl⟩ : ∃ j : Nat, i = (j : Int) := ⟨i.toNat, by omega⟩
  have hj : j < l.length := by omega
  obtain ⟨⟨s, c⟩, hp⟩ : ∃ p, p = l.getD j (0, 0) := ⟨_, rfl⟩
  have a0 := h.at hj
  have ok := hk.getD hk0 j
  rw [← hp] at a0 ok
  obtain ⟨c1, c2, z1, z2⟩ := a0
  obtain ⟨os, oc0, ock⟩ := ok
  have hN : ∀ q, stp (s, c) e = some q → l.nxt (j : Int) e = (true, l.set j q) := fun q hq => Vs.yes hj (by rw [← hp]; exact hq)
  have hZ : stp (s, c) e = none → l.nxt (j : Int) e = (false, l) := fun hq => Vs.no hj (by rw [← hp]; exact hq)
  have S0 : ∀ a, IsH (w.setCell ⟨g, j, none⟩ (.int .i64 a)) o Y (l.set j (a, c)) g g2 ∧ Fr TR o o w (w.setCell ⟨g, j, none⟩ (.int .i64 a)) := fun a => by
    have := h.set0 hj a
    rw [← hp] at this
    exact this
  have S1 := fun a b => h.set1 hj a b
  have hgg : g ≠ g2 := fun e => by
    have h1 := h.st.op.1
    have h2 := h.nc.op.1
    rw [e, h2] at h1
    cases h1
  have d0 : decide ((j : Int) < 0) = false := by simp
  have d1 : decide ((n : Int) ≤ (j : Int)) = false := by simp; omega
  have hj' : j < n := by omega
  clear hk hp hj hi
  by_cases e1 : e = 1
  · subst e1
    have HE := hid (rn_yes (S1 0 (c + 1)) (hN _ rfl))
    have f1 : (w.setCell ⟨g, j, none⟩ (.int .i64 0)).cell? ⟨g2, j, none⟩ = some (.int .i64 c) := (World.cell?_setCell_other _ _ _ _ (fun e => by injection e with e _; exact hgg e)).trans c2
    have oY : Y ≠ g := fun e => by
      have h1 := h.st.op.1
      rw [← e, h.oY] at h1
      cases h1
    have f0 : (w.setCell ⟨g, j, none⟩ (.int .i64 0)).cell? ⟨Y, 1, none⟩ = some (.slice (some ⟨g2, 0, none⟩) n n) := (World.cell?_setCell_other _ _ _ _ (fun e => by injection e with e _; exact oY e.symm)).trans b0
    clear h hh hn hN hZ S0 S1 os oY hgg
    go_enter Try.func14, Try.ntmps14
    go_wp2_with fail
    go_ret
    exact HE.out
  have n1 : (e == 1) = false := by simp [e1]
  by_cases e2 : e = 2
  · subst e2
    by_cases hs : s = 0
    · subst hs
      by_cases hc : c = 0
      · subst hc
        have HE := hid (rn_no hh (hZ rfl))
        clear h hh hn hN hZ S0 S1 os e1 hgg
        go_enter Try.func14, Try.ntmps14
        go_wp2_with fail
        go_ret
        exact HE.out
      · have hc' : decide (0 < c) = true := by simp; omega
        have HE := hid (rn_yes (S0 1) (hN (1, c) (by simp [stp, hc])))
        clear h hh hn hN hZ S0 S1 os e1 hc hgg
        go_enter Try.func14, Try.ntmps14
        go_wp2_with fail
        go_ret
        exact HE.out
    · have hs' : (s == 0) = false := by simp [hs]
      have HE := hid (rn_no hh (hZ (by simp [stp, hs])))
      clear h hh hn hN hZ S0 S1 os e1 hs hgg
      go_enter Try.func14, Try.ntmps14
      go_wp2_with fail
      go_ret
      exact HE.out
  have n2 : (e == 2) = false := by simp [e2]
  by_cases e3 : e = 3
  · subst e3
    by_cases hs : s = 1
    · subst hs
      have HE := hid (rn_yes (S0 2) (hN (2, c) rfl))
      clear h hh hn hN hZ S0 S1 os e1 e2 hgg
      go_enter Try.func14, Try.ntmps14
      go_wp2_with fail
      go_ret
      exact HE.out
    · have hs' : (s == 1) = false := by simp [hs]
      have HE := hid (rn_no hh (hZ (by simp [stp, hs])))
      clear h hh hn hN hZ S0 S1 os e1 e2 hs hgg
      go_enter Try.func14, Try.ntmps14
      go_wp2_with fail
      go_ret
      exact HE.out
  have n3 : (e == 3) = false := by simp [e3]
  have HE := hid (rn_no hh (hZ (by simp [stp, e1, e2, e3])))
  clear h hh hn hN hZ S0 S1 os e1 e2 e3 hgg
  go_enter Try.func14, Try.ntmps14
  go_wp2_with fail
  go_ret
  exact HE.out
end Go.Proofs.Ythoambgkcoeffaa
