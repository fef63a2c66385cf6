/-
  ROWS OF NUMBERS that were made and stay; Same, Index, Within.
-/
import Derived.Test.YtdnbpbkckdjbjaaStr
namespace Go.Proofs.Ytdnbpbkckdjbjaa
open Go.RowKit

theorem hid {P : Prop} (h : P) : Hid P := h
theorem under22 : Try.prog.underlying 22 = some (.slice 3) := by kernel_rfl
theorem info3 : (Try.prog.info? 3).map (fun i => (i.zero, i.size, i.bytes)) = some (some (.int .i64 0), 1, 8) := by kernel_rfl
/-- Numbers lie at V. -/
def IR (w : World) (V : Value) (l : List Int) : Prop :=
  (l = [] ∧ ∃ A c, V = .slice A 0 c) ∨ ∃ g cap, V = .slice (some ⟨g, 0, none⟩) l.length cap ∧ l.length ≤ cap ∧ g < w.heap.size ∧ ∀ j u, l[j]? = some u → w.cell? ⟨g, j, none⟩ = some (.int .i64 u)
theorem IR.form {w : World} {V : Value} {l : List Int} (h : IR w V l) : ∃ a c, V = .slice a l.length c ∧ l.length ≤ c := by
  rcases h with ⟨rfl, A, c, rfl⟩ | ⟨g, cap, rfl, h1, _⟩
  · exact ⟨A, c, rfl, Nat.zero_le _⟩
  · exact ⟨_, cap, rfl, h1⟩
theorem IR.below {w w' : World} {V : Value} {l : List Int} (h : IR w V l) (b : Below w.heap.size w w') : IR w' V l := by
  rcases h with h | ⟨g, cap, e, h1, h2, h3⟩
  · exact .inl h
  · exact .inr ⟨g, cap, e, h1, Nat.lt_of_lt_of_le h2 b.size, fun j u hu => (World.cell?_of_block (a := ⟨g, j, none⟩) (b.block g h2)).trans (h3 j u hu)⟩
theorem IR.read {w : World} {a : Option Addr} {n c : Nat} {l : List Int} (h : IR w (.slice a n c) l) {j : Nat} {u : Int} (hu : l[j]? = some u) : ∃ g, a = some ⟨g, 0, none⟩ ∧ g < w.heap.size ∧ w.cell? ⟨g, j, none⟩ = some (.int .i64 u) := by
  rcases h with ⟨rfl, _⟩ | ⟨g, cap, e, h1, h2, h3⟩
  · cases hu
  · injection e with e1
    exact ⟨g, e1, h2, h3 j u hu⟩
/-- A row cut off. -/
theorem IR.cut {w : World} {a : Option Addr} {n c : Nat} {l : List Int} (h : IR w (.slice a n c) l) (k : Nat) (hk : k ≤ n) : IR w (.slice a k c) (l.take k) := by
  rcases h with ⟨rfl, A, c', e⟩ | ⟨g, cap, e, h1, h2, h3⟩
  · injection e with e1 e2 e3
    have : k = 0 := by omega
    subst this
    exact .inl ⟨rfl, _, _, rfl⟩
  · injection e with e1 e2 e3
    subst e1 e2 e3
    have hl : (l.take k).length = k := by rw [List.length_take]; omega
    refine .inr ⟨g, c, by rw [hl], by omega, h2, fun j u hu => h3 j u ?_⟩
    rw [List.getElem?_take] at hu
    split at hu
    · exact hu
    · cases hu
/-- Numbers as cells. -/
def ic (l : List Int) : List Value := l.map (Value.int .i64)
theorem ic_length (l : List Int) : (ic l).length = l.length := by simp [ic]
theorem ic_at (l : List Int) {j : Nat} {u : Int} (h : l[j]? = some u) : (ic l)[j]? = some (.int .i64 u) := by simp [ic, h]
theorem ic_one (l : List Int) : ∀ u ∈ ic l, u.oneCell' = true := fun u hu => by obtain ⟨k, _, rfl⟩ := List.mem_map.1 hu; rfl
theorem OwnK.row {w : World} {o : Nat → Nat × Nat} {t : Nat × Nat} {V : Value} {n : Nat} {l : List Int} (h : OwnK w o t 1 V n (ic l)) : IR w V l := by
  have hl := h.1
  rw [ic_length] at hl
  rcases h.2.2 with ⟨rfl, rfl⟩ | ⟨g, cap, e, h2, h3, h4, h5, h6, h7⟩
  · exact .inl ⟨List.eq_nil_of_length_eq_zero (by omega), _, _, rfl⟩
  · rw [Nat.mul_one] at hl
    subst hl
    exact .inr ⟨g, cap, e, h4, h3, fun j u hu => h6 j _ (ic_at l hu)⟩
set_option maxRecDepth 100000 in
set_option maxHeartbeats 1000000 in
/-- Same, of two rows of the same numbers. -/
theorem same_any {V1 V2 : Value} (l : List Int) (hn : l.length ≤ 1000000) (w : World) (h1 : IR w V1 l) (h2 : IR w V2 l) :
    Calls Try.prog 11 #[V1, V2] w fun e w' => e = .returned (.bool true) ∧ Below w.heap.size w w' := by
  obtain ⟨a1, c1, rfl, _⟩ := h1.form
  obtain ⟨a2, c2, rfl, _⟩ := h2.form
  obtain ⟨n, hnn⟩ : ∃ n, n = l.length := ⟨_, rfl⟩
  rw [← hnn] at h1 h2 hn ⊢
  have H1 : Hid (IR w (.slice a1 n c1) l) := h1
  have H2 : Hid (IR w (.slice a2 n c2) l) := h2
  have HN : Hid (n = l.length) := hnn
  have ne : ((n : Int) != (n : Int)) = false := by simp
  clear h1 h2 hnn
  go_enter Try.func11, Try.ntmps11
  go_wp2_with fail
  go_loopw [5] (fun i wr => ∃ j m : Nat, j ≤ n ∧ i = .int .i64 (j : Int) ∧ Hid (wr = w.drewN m)) (fun i _ => n - (intOf i).toNat)
  case atStart => exact ⟨0, 0, by omega, rfl, rfl⟩
  case round =>
    obtain ⟨j, m, hj, rfl, HW⟩ := hrel
    by_cases hlt : j < n
    · obtain ⟨k, hk⟩ : ∃ k, l[j]? = some k := ⟨_, List.getElem?_eq_getElem (by rw [← HN.out]; exact hlt)⟩
      obtain ⟨g1, e1, _, d1⟩ := H1.out.read hk
      obtain ⟨g2, e2, _, d2⟩ := H2.out.read hk
      subst e1 e2
      have f1 : wr.cell? ⟨g1, j, none⟩ = some (.int .i64 k) := by rw [HW.out]; exact d1
      have f2 : wr.cell? ⟨g2, j, none⟩ = some (.int .i64 k) := by rw [HW.out]; exact d2
      have hi1 : (j : Int) < (n : Int) := by omega
      clear d1 d2 hk
      go_wp2_with fail
      go_quiet (fail)
      go_wp2_with fail
      exact ⟨⟨j + 1, m + nq, by omega, by go_num, by show _ = _; rw [HW.out, World.drewN_drewN]⟩, by simp [intOf]; omega⟩
    · go_wp2_with fail
      go_ret
      exact ⟨rfl, by rw [HW.out]; exact below_drewN (Below.refl _ _) m⟩
/-- Where a number stands. -/
def ixf (x : Int) : List Int → Nat → Int
  | [], _ => -1
  | y :: l, i => if x = y then (i : Int) else ixf x l (i + 1)
theorem ixf_drop (x : Int) (l : List Int) (j : Nat) (u : Int) (h : l[j]? = some u) : ixf x (l.drop j) j = if x = u then (j : Int) else ixf x (l.drop (j + 1)) (j + 1) := by
  have hj := (List.getElem?_eq_some_iff.1 h)
  obtain ⟨hj, e⟩ := hj
  rw [List.drop_eq_getElem_cons hj, e]
  rfl
set_option maxRecDepth 100000 in
set_option maxHeartbeats 1000000 in
/-- Index. -/
theorem index_any {V : Value} (l : List Int) (x : Int) (hn : l.length ≤ 1000000) (w : World) (h : IR w V l) :
    Calls Try.prog 14 #[V, .int .i64 x] w fun e w' => e = .returned (.int .i64 (ixf x l 0)) ∧ w = w' := by
  obtain ⟨a1, c1, rfl, _⟩ := h.form
  obtain ⟨n, hnn⟩ : ∃ n, n = l.length := ⟨_, rfl⟩
  rw [← hnn] at h hn ⊢
  have H1 : Hid (IR w (.slice a1 n c1) l) := h
  have HN : Hid (n = l.length) := hnn
  clear h hnn
  go_enter Try.func14, Try.ntmps14
  go_wp2_with fail
  go_loopw [8] (fun i wr => ∃ j : Nat, j ≤ n ∧ i = .int .i64 (j : Int) ∧ Hid (ixf x l 0 = ixf x (l.drop j) j) ∧ w = wr) (fun i _ => n - (intOf i).toNat)
  case atStart => exact ⟨0, by omega, rfl, rfl, rfl⟩
  case round =>
    obtain ⟨j, hj, rfl, HE, rfl⟩ := hrel
    by_cases hlt : j < n
    · obtain ⟨k, hk⟩ : ∃ k, l[j]? = some k := ⟨_, List.getElem?_eq_getElem (by rw [← HN.out]; exact hlt)⟩
      obtain ⟨g1, e1, _, d1⟩ := H1.out.read hk
      subst e1
      have HE2 : Hid (ixf x l 0 = if x = k then (j : Int) else ixf x (l.drop (j + 1)) (j + 1)) := HE.out.trans (ixf_drop x l j k hk)
      have hi1 : (j : Int) < (n : Int) := by omega
      clear hk HE
      by_cases hx : x = k
      · have HE3 : Hid (ixf x l 0 = (j : Int)) := HE2.out.trans (if_pos hx)
        have hxk : (x == k) = true := by simp [hx]
        clear hx
        go_wp2_with fail
        go_ret
        exact ⟨ret_int HE3.out.symm, rfl⟩
      · have HE3 : Hid (ixf x l 0 = ixf x (l.drop (j + 1)) (j + 1)) := HE2.out.trans (if_neg hx)
        have hxk : (x == k) = false := by simp [hx]
        clear hx
        go_wp2_with fail
        exact ⟨⟨j + 1, by omega, by go_num, HE3, trivial⟩, by simp [intOf]; omega⟩
    · have hjn : j = n := by omega
      have HE2 : Hid (ixf x l 0 = -1) := HE.out.trans (by rw [hjn, HN.out, List.drop_length]; rfl)
      clear hjn HE
      go_wp2_with fail
      go_ret
      exact ⟨ret_int HE2.out.symm, rfl⟩
theorem tmod_bd (n : Int) (h : Nat) : -((h : Int) + 1) < n.tmod ((h : Int) + 1) ∧ n.tmod ((h : Int) + 1) < (h : Int) + 1 := by
  have h1 := Int.tmod_lt_of_pos n (show (0 : Int) < (h : Int) + 1 by omega)
  have h2 := Int.lt_tmod_of_pos n (show (0 : Int) < (h : Int) + 1 by omega)
  exact ⟨h2, h1⟩
/-- What Within answers. -/
def wi (n L H : Int) : Int := let q := n.tmod (H - L + 1); if q < 0 then L + (q + H - L + 1) else L + q
theorem wi_bd (n L H : Int) (hLH : L ≤ H) : L ≤ wi n L H ∧ wi n L H ≤ H := by
  obtain ⟨d, hd⟩ : ∃ d : Nat, H - L = (d : Int) := ⟨(H - L).toNat, by omega⟩
  obtain ⟨q1, q2⟩ := tmod_bd n d
  unfold wi
  rw [hd]
  simp only
  split <;> omega
set_option maxRecDepth 100000 in
set_option maxHeartbeats 400000 in
/-- Within: a number of the bounds. -/
theorem within_any (n L H : Int) (hL : -1000 ≤ L) (hLH : L ≤ H) (hH : H ≤ 100000000) (w : World) :
    Calls Try.prog 12 #[.int .i64 n, .int .i64 L, .int .i64 H] w fun e w' => e = .returned (.int .i64 (wi n L H)) ∧ w = w' := by
  obtain ⟨d, hd⟩ : ∃ d : Nat, H - L = (d : Int) := ⟨(H - L).toNat, by omega⟩
  have hHL : H = L + (d : Int) := by omega
  subst hHL
  obtain ⟨q1, q2⟩ := tmod_bd n d
  have HWI : Hid (wi n L (L + (d : Int)) = if n.tmod ((d : Int) + 1) < 0 then L + (n.tmod ((d : Int) + 1) + (L + d) - L + 1) else L + n.tmod ((d : Int) + 1)) := by
    show _ = _; unfold wi; rw [show L + (d : Int) - L + 1 = (d : Int) + 1 by omega]
  clear hd
  obtain ⟨q, hq⟩ : ∃ q, n.tmod ((d : Int) + 1) = q := ⟨_, rfl⟩
  rw [hq] at q1 q2 HWI
  have e1 : L + (d : Int) - L + 1 = (d : Int) + 1 := by omega
  have hne : ((d : Int) + 1 == 0) = false := by simp; omega
  have hne2 : ¬ ((d : Int) + 1 = -1) := by omega
  have hne3 : ¬ ((d : Int) + 1 = 0) := by omega
  by_cases q0 : q < 0
  · go_enter Try.func12, Try.ntmps12
    go_wp2
    go_ret
    exact ⟨ret_int (by rw [HWI.out, if_pos q0]), rfl⟩
  · go_enter Try.func12, Try.ntmps12
    go_wp2
    go_ret
    exact ⟨ret_int (by rw [HWI.out, if_neg (by omega)]), rfl⟩
end Go.Proofs.Ytdnbpbkckdjbjaa
