/-
  THE CODE: what New lays; K, N, Size of it.
-/
import Derived.Test.YtmhhegkpkncebaaInvert
import Derived.Test.YtmhhegkpkncebaaCauchy
import Derived.Test.YtmhhegkpkncebaaStr
namespace Go.Proofs.Ytmhhegkpkncebaa
open Go.RowKit

theorem fold_list (off : Nat) : ∀ (xs : List Value) (s : Nat) (A : Array Value), ((xs.zipIdx s).foldl (fun cs x => cs.setIfInBounds (off + x.2) x.1) A).size = A.size ∧
    (∀ i, i < off + s → ((xs.zipIdx s).foldl (fun cs x => cs.setIfInBounds (off + x.2) x.1) A)[i]? = A[i]?) ∧
    (∀ j, j < xs.length → off + s + j < A.size → ((xs.zipIdx s).foldl (fun cs x => cs.setIfInBounds (off + x.2) x.1) A)[off + s + j]? = xs[j]?)
  | [], s, A => ⟨rfl, fun _ _ => rfl, fun j hj => absurd hj (Nat.not_lt_zero _)⟩
  | x :: xs, s, A => by
    obtain ⟨h1, h2, h3⟩ := fold_list off xs (s + 1) (A.setIfInBounds (off + s) x)
    rw [List.zipIdx_cons, List.foldl_cons]
    refine ⟨by rw [h1]; simp, fun i hi => ?_, fun j hj hA => ?_⟩
    · rw [h2 i (by omega), Array.getElem?_setIfInBounds_ne (by omega)]
    · rcases j with _ | j
      · rw [h2 (off + s + 0) (by omega)]; simp only [Nat.add_zero]; rw [Array.getElem?_setIfInBounds_self_of_lt (by omega)]; rfl
      · have := h3 j (by simpa using hj) (by simp; omega)
        rw [show off + s + (j + 1) = off + (s + 1) + j by omega, this]; rfl
/-- The cells of a code as New builds them: k, and the tables behind it. -/
def codeCells (Z T : Array Value) (k : Int) : Array Value := Array.foldl (fun cs x => cs.setIfInBounds (1 + x.snd) x.fst) (Z.setIfInBounds 0 (Value.int IntKind.i64 k)) T.zipIdx 0 766
theorem zero63_size : Try.zeroCells63.size = 768 := by kernel_rfl
theorem codeCells_is {Z T : Array Value} (hZ : Z.size = 768) (h : T.size = 766) (k : Int) : (codeCells Z T k).size = 768 ∧ (codeCells Z T k)[0]? = some (.int .i64 k) ∧ ∀ j, j < 766 → (codeCells Z T k)[1 + j]? = T[j]? := by
  have e : codeCells Z T k = (T.toList.zipIdx 0).foldl (fun cs x => cs.setIfInBounds (1 + x.2) x.1) (Z.setIfInBounds 0 (Value.int IntKind.i64 k)) := by
    unfold codeCells
    rw [← h, show T.size = T.zipIdx.size by simp, ← Array.foldl_toList, Array.toList_zipIdx]
  obtain ⟨h1, h2, h3⟩ := fold_list 1 T.toList 0 (Z.setIfInBounds 0 (Value.int IntKind.i64 k))
  rw [e]
  refine ⟨by rw [h1]; simp [hZ], ?_, fun j hj => ?_⟩
  · rw [h2 0 (by omega), Array.getElem?_setIfInBounds_self_of_lt (by rw [hZ]; omega)]
  · have := h3 j (by simp [h]; omega) (by simp [hZ]; omega)
    simpa using this

theorem own_set' {w : World} {B e s k G i t : Nat} {v u : Value} {xs : List Value} {C : Array Value} (h : w.ownsRow B e s v k xs) (hG : w.heap[G]? = some (.cells C t (0, 0))) (he : e ≠ t) : (w.setCell ⟨G, i, none⟩ u).ownsRow B e s v k xs := by
  obtain ⟨h1, h2⟩ := h
  refine ⟨h1, ?_⟩
  rcases h2 with h2 | ⟨g, cap, cur, hv, hg, hh, r⟩
  · exact Or.inl h2
  · have hne : g ≠ G := fun e' => by subst e'; rw [hG] at hh; injection hh with hh; injection hh with _ e2 _; exact he e2.symm
    exact Or.inr ⟨g, cap, cur, hv, hg, by rw [Below.heap_setCell _ _ _ _ hne]; exact hh, r⟩
theorem RowsOwn.set' {w : World} {xs : List Value} {A : Nat → Nat → Nat} {n i G q t : Nat} {u : Value} {C : Array Value} (h : RowsOwn w xs A n i) (hG : w.heap[G]? = some (.cells C t (0, 0))) (ht : t ≠ 5) : RowsOwn (w.setCell ⟨G, q, none⟩ u) xs A n i := by
  intro s hs
  obtain ⟨p, R, h1, h2, h3⟩ := h s hs
  have hne : p ≠ G := fun e' => by subst e'; rw [hG] at h2; injection h2 with h2; injection h2 with _ e2 _; exact ht e2
  exact ⟨p, R, h1, by rw [Below.heap_setCell _ _ _ _ hne]; exact h2, h3⟩

/-- A code of k and n lies in block b. -/
def IsCode (w : World) (b k n : Nat) : Prop :=
  ∃ C g cap, w.heap[b]? = some (.cells C 63 (0, 0)) ∧ C.size = 768 ∧ C[0]? = some (.int .i64 (k : Int)) ∧
    (∀ i, i < 510 → C[1 + i]? = some (.int .u8 ((Gf.ex i : Nat) : Int))) ∧ (∀ x, x < 256 → C[511 + x]? = some (.int .u8 ((Gf.lg x : Nat) : Int))) ∧
    C[767]? = some (.slice (some ⟨g, 0, none⟩) n cap) ∧ MatF w (some ⟨g, 0, none⟩) (Gf.cau k) n k
theorem IsCode.tab {w : World} {b k n : Nat} (h : IsCode w b k n) : HasTab w b := by
  obtain ⟨C, g, cap, h1, _, _, h2, h3, _⟩ := h
  exact ⟨C, h1, h2, h3⟩
theorem IsCode.kcell {w : World} {b k n : Nat} (h : IsCode w b k n) : w.cell? ⟨b, 0, none⟩ = some (.int .i64 (k : Int)) := by
  obtain ⟨C, g, cap, h1, _, h2, _⟩ := h
  rw [cell_of_row w b 0 C 63 (0, 0) h1]; exact h2
theorem IsCode.rows {w : World} {b k n : Nat} (h : IsCode w b k n) : ∃ g cap, w.cell? ⟨b, 767, none⟩ = some (.slice (some ⟨g, 0, none⟩) n cap) ∧ MatF w (some ⟨g, 0, none⟩) (Gf.cau k) n k := by
  obtain ⟨C, g, cap, h1, _, _, _, _, h2, h3⟩ := h
  exact ⟨g, cap, by rw [cell_of_row w b 767 C 63 (0, 0) h1]; exact h2, h3⟩
theorem IsCode.up {w w' : World} {b k n : Nat} (h : IsCode w b k n) (hb : Below w.heap.size w w') : IsCode w' b k n := by
  obtain ⟨C, g, cap, h1, h2, h3, h4, h5, h6, h7⟩ := h
  exact ⟨C, g, cap, (hb.block b (Array.getElem?_eq_some_iff.1 h1).1).trans h1, h2, h3, h4, h5, h6, h7.below hb⟩
theorem IsCode.lt {w : World} {b k n : Nat} (h : IsCode w b k n) : b < w.heap.size := h.tab.lt

set_option maxHeartbeats 400000 in
set_option maxRecDepth 100000 in
theorem new_any (k m : Nat) (K M : Int) (hK : K = (k : Int)) (hM : M = (m : Int)) (hk1 : 1 ≤ k) (hk : k ≤ 8) (hm : k + m ≤ 12) (w : World) :
    Calls Try.prog 9 #[.int .i64 K, .int .i64 M] w fun e w' => ∃ b, e = .returned (.tuple #[.pointer (some ⟨b, 0, none⟩), .int .i64 0]) ∧ IsCode w' b k (k + m) ∧ Below w.heap.size w w' := by
  subst hK hM
  go_enter Try.func9, Try.ntmps9
  go_wp2_with fail
  refine (make_is _).mono ?_
  rintro e w1 ⟨T, hT, rfl, hb⟩
  have hs := hT.size
  go_wp2_with fail
  obtain ⟨A, eA⟩ : ∃ A, A = codeCells Try.zeroCells63 T (k : Int) := ⟨_, rfl⟩
  have hA := codeCells_is zero63_size hs (k : Int)
  rw [← eA] at hA
  have EA := eA
  unfold codeCells at EA
  rw [← EA]
  obtain ⟨a1, a2, a3⟩ := hA
  rw [show T = tab from hT] at a3
  clear EA eA
  obtain ⟨b, W, eb, eW, hW, hBW⟩ : ∃ b W, b = w1.heap.size ∧ W = w1.alloc (.cells A 63) ∧ W.heap[b]? = some (.cells A 63 (0, 0)) ∧ Below w.heap.size w W :=
    ⟨_, _, rfl, rfl, heap_alloc_last w1 _, hb.alloc hb.size _⟩
  have hle : w.heap.size ≤ b := by rw [eb]; exact hb.size
  rw [← eb, ← eW]
  have HTab : HasTab W b := ⟨A, hW, fun i hi => by rw [a3 i (by omega)]; exact tab_ex i hi, fun x hx => by
    rw [show 511 + x = 1 + (510 + x) by omega, a3 (510 + x) (by omega)]; exact tab_lg x hx⟩
  have Htab := HTab
  clear eb eW hs
  refine (cau_own b k m _ _ rfl rfl hk1 hk hm W HTab).mono ?_
  rintro e w2 ⟨v, xs, rfl, ho, hro, hb2⟩
  have h2 : w2.heap[b]? = some (.cells A 63 (0, 0)) := (hb2.block b HTab.lt).trans hW
  obtain ⟨u, hu⟩ : ∃ u, A[767]? = some u := ⟨A[767]'(by omega), by simp⟩
  have c1 : w2.cell? ⟨b, 767, none⟩ = some u := by rw [cell_of_row w2 b 767 A 63 (0, 0) h2]; exact hu
  have c2 : w2.frozen? ⟨b, 767, none⟩ = false := by simp [World.frozen?, h2]
  obtain ⟨w3, e3⟩ : ∃ w3, w3 = w2.setCell ⟨b, 767, none⟩ v := ⟨_, rfl⟩
  obtain ⟨g, cap, ev, HM, hc⟩ := own_matF (by omega) (own_set' (i := 767) (u := v) ho h2 (by decide)) (hro.set' (q := 767) (u := v) h2 (by decide))
  rw [← e3] at HM
  subst ev
  clear ho hro
  have hblt : b < w2.heap.size := (Array.getElem?_eq_some_iff.1 h2).1
  have h3 : w3.heap[b]? = some (.cells (A.setIfInBounds 767 (.slice (some ⟨g, 0, none⟩) (k + m) cap)) 63 (0, 0)) := by
    rw [e3, setCell_eq_setRow w2 b 767 A 63 (0, 0) _ h2]; exact setRow_heap w2 b A _ 63 (0, 0) h2
  have HB3 : Hid (Below w.heap.size w w3) := by rw [e3]; exact (hBW.trans (hb2.mono hBW.size)).setCell hle _
  have HC : Hid (IsCode w3 b k (k + m)) := by
    refine ⟨A.setIfInBounds 767 (.slice (some ⟨g, 0, none⟩) (k + m) cap), g, cap, h3, by simp [a1], ?_, fun i hi => ?_, fun x hx => ?_, ?_, ?_⟩
    · rw [Array.getElem?_setIfInBounds_ne (by omega)]; exact a2
    · rw [Array.getElem?_setIfInBounds_ne (by omega), a3 i (by omega)]; exact tab_ex i hi
    · rw [Array.getElem?_setIfInBounds_ne (by omega), show 511 + x = 1 + (510 + x) by omega, a3 (510 + x) (by omega)]; exact tab_lg x hx
    · rw [Array.getElem?_setIfInBounds_self_of_lt (by omega)]
    · exact HM
  clear hT hb a2 a3 h2 hu hW hBW hle HTab hb2 HM h3 Htab a1
  have he : (((k : Int) + (m : Int)) == 0) = false := by simp; omega
  have c3 : w3.cell? ⟨b, 767, none⟩ = some (.slice (some ⟨g, 0, none⟩) (k + m) cap) := by
    rw [e3]; exact World.cell?_setCell_same _ _ _ c1
  go_wp2_with fail
  rw [← e3]
  go_ret2
  exact ⟨b, rfl, HC.out, HB3.out⟩

set_option maxHeartbeats 400000 in
set_option maxRecDepth 100000 in
theorem new_none (k m : Int) (h : k < 1 ∨ 8 < k ∨ m < 0 ∨ 12 - k < m) (w : World) :
    Calls Try.prog 9 #[.int .i64 k, .int .i64 m] w fun e w' => e = .returned (.tuple #[.pointer none, .int .i64 1]) ∧ Below w.heap.size w w' := by
  go_enter Try.func9, Try.ntmps9
  go_wp2_with fail
  refine (make_is _).mono ?_
  rintro e w1 ⟨T, hT, rfl, hb⟩
  have hs := hT.size
  go_wp2_with fail
  obtain ⟨A, eA⟩ : ∃ A, A = codeCells Try.zeroCells63 T k := ⟨_, rfl⟩
  have a1 := (codeCells_is zero63_size hs k).1
  rw [← eA] at a1
  have EA := eA
  unfold codeCells at EA
  rw [← EA]
  clear EA eA
  obtain ⟨b, W, eb, eW, hW, hBW⟩ : ∃ b W, b = w1.heap.size ∧ W = w1.alloc (.cells A 63) ∧ W.heap[b]? = some (.cells A 63 (0, 0)) ∧ Below w.heap.size w W :=
    ⟨_, _, rfl, rfl, heap_alloc_last w1 _, hb.alloc hb.size _⟩
  have hle : w.heap.size ≤ b := by rw [eb]; exact hb.size
  rw [← eb, ← eW]
  clear eb eW hs
  refine (cau_none b k m h W).mono ?_
  rintro e w2 ⟨rfl, rfl⟩
  obtain ⟨u, hu⟩ : ∃ u, A[767]? = some u := ⟨A[767]'(by omega), by simp⟩
  have c1 : W.cell? ⟨b, 767, none⟩ = some u := by rw [cell_of_row W b 767 A 63 (0, 0) hW]; exact hu
  have c2 : W.frozen? ⟨b, 767, none⟩ = false := by simp [World.frozen?, hW]
  have HB3 : Hid (Below w.heap.size w (W.setCell ⟨b, 767, none⟩ (.slice none 0 0))) := hBW.setCell hle _
  clear hT hb hu hW hBW hle h
  go_wp2_with fail
  go_ret2
  exact ⟨rfl, HB3.out⟩

/-- How many bytes a fragment has. -/
def szk (k n : Nat) : Nat := (n + k - 1) / k

set_option maxHeartbeats 400000 in
theorem size_any (b k N n : Nat) (X : Int) (hX : X = (n : Int)) (hk1 : 1 ≤ k) (hk : k ≤ 8) (hn : n ≤ 4611686018427387904) (w : World) (hC : IsCode w b k N) :
    Calls Try.prog 18 #[.pointer (some ⟨b, 0, none⟩), .int .i64 X] w fun e w' => e = .returned (.int .i64 ((szk k n : Nat) : Int)) ∧ w = w' := by
  subst hX
  have c1 := hC.kcell
  clear hC
  by_cases n0 : n = 0
  · subst n0
    go_enter Try.func18, Try.ntmps18
    go_wp2
    go_ret
    refine ⟨ret_int ?_, rfl⟩
    unfold szk; rw [Nat.zero_add, Nat.div_eq_of_lt (by omega)]; rfl
  · have h1 : decide ((n : Int) ≤ 0) = false := by simp; omega
    have hne : ((k : Int) == 0) = false := by simp; omega
    have hne2 : ¬ ((k : Int) = -1) := by omega
    obtain ⟨q, eq⟩ : ∃ q, q = n / k := ⟨_, rfl⟩
    obtain ⟨r, er⟩ : ∃ r, r = n % k := ⟨_, rfl⟩
    have hdm := Nat.div_add_mod n k
    have hlt := Nat.mod_lt n (show k > 0 by omega)
    have hqn : q ≤ n := by rw [eq]; exact Nat.div_le_self n k
    have hq : wrap64 ((n : Int) / (k : Int)) = (q : Int) := by
      rw [show (n : Int) / (k : Int) = (q : Int) by rw [eq]; simp]
      unfold wrap64; omega
    have hr : (n : Int) % (k : Int) = (r : Int) := by rw [er]; simp
    rw [← eq, ← er] at hdm
    rw [← er] at hlt
    have Hz : Hid (szk k n = if r = 0 then q else q + 1) := by
      show (n + k - 1) / k = _
      by_cases h0 : r = 0
      · rw [if_pos h0, show n + k - 1 = (k - 1) + k * q by omega, Nat.add_mul_div_left _ _ (by omega), Nat.div_eq_of_lt (by omega)]; omega
      · rw [if_neg h0, show n + k - 1 = (r - 1) + k * (q + 1) by rw [Nat.mul_add]; omega, Nat.add_mul_div_left _ _ (by omega), Nat.div_eq_of_lt (by omega)]; omega
    clear eq er hdm
    by_cases h0 : r = 0
    · have i1 : decide (0 < (r : Int)) = false := by simp; omega
      go_enter Try.func18, Try.ntmps18
      go_wp2
      go_ret
      exact ⟨ret_int (by rw [Hz.out, if_pos h0]; exact hq), rfl⟩
    · have i1 : (0 : Int) < (r : Int) := by omega
      go_enter Try.func18, Try.ntmps18
      go_wp2
      go_ret
      exact ⟨ret_int (by rw [Hz.out, if_neg h0]; omega), rfl⟩
theorem size_neg (b : Nat) (X : Int) (hX : X < 0) (w : World) :
    Calls Try.prog 18 #[.pointer (some ⟨b, 0, none⟩), .int .i64 X] w fun e w' => e = .returned (.int .i64 0) ∧ w = w' := by
  have h1 : X ≤ 0 := by omega
  go_enter Try.func18, Try.ntmps18
  go_wp2
  go_ret
  exact ⟨rfl, rfl⟩
theorem k_any (b k N : Nat) (w : World) (hC : IsCode w b k N) : Calls Try.prog 16 #[.pointer (some ⟨b, 0, none⟩)] w fun e w' => e = .returned (.int .i64 (k : Int)) ∧ w = w' := by
  have c1 := hC.kcell
  clear hC
  go_enter Try.func16, Try.ntmps16
  go_wp2
  go_ret
  exact ⟨rfl, rfl⟩
theorem n_any (b k N : Nat) (w : World) (hC : IsCode w b k N) : Calls Try.prog 17 #[.pointer (some ⟨b, 0, none⟩)] w fun e w' => e = .returned (.int .i64 (N : Int)) ∧ w = w' := by
  obtain ⟨g, cap, c1, _⟩ := hC.rows
  clear hC
  go_enter Try.func17, Try.ntmps17
  go_wp2
  go_ret
  exact ⟨rfl, rfl⟩
theorem place_yes (b k N : Nat) (X : Int) (h : 0 ≤ X ∧ X < (N : Int)) (w : World) (hC : IsCode w b k N) : Calls Try.prog 34 #[.pointer (some ⟨b, 0, none⟩), .int .i64 X] w fun e w' => e = .returned (.bool true) ∧ w = w' := by
  obtain ⟨h1, h2⟩ := h
  go_enter Try.func34, Try.ntmps34
  go_wp2_with fail
  refine (n_any b k N _ hC).mono ?_
  rintro e w1 ⟨rfl, rfl⟩
  clear hC
  go_wp2_with fail
  go_ret
  exact ⟨rfl, rfl⟩
theorem place_no (b k N : Nat) (X : Int) (h : X < 0 ∨ (N : Int) ≤ X) (w : World) (hC : IsCode w b k N) : Calls Try.prog 34 #[.pointer (some ⟨b, 0, none⟩), .int .i64 X] w fun e w' => e = .returned (.bool false) ∧ w = w' := by
  by_cases h1 : X < 0
  · clear h
    have i1 : decide (0 ≤ X) = false := by simp; omega
    go_enter Try.func34, Try.ntmps34
    go_wp2_with fail
    go_ret
    exact ⟨rfl, rfl⟩
  · have i1 : 0 ≤ X := by omega
    have i2 : decide (X < (N : Int)) = false := by simp; omega
    clear h
    go_enter Try.func34, Try.ntmps34
    go_wp2_with fail
    refine (n_any b k N _ hC).mono ?_
    rintro e w1 ⟨rfl, rfl⟩
    clear hC
    go_wp2_with fail
    go_ret
    exact ⟨rfl, rfl⟩
end Go.Proofs.Ytmhhegkpkncebaa
