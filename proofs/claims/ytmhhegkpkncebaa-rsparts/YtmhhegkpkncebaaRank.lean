/-
  RANKS OVER THE FIELD OF 256, no program in sight: more unknowns than equations have an answer that isn't nought; a rank is one number; a product's is no greater than either one's; a square's is its size just if it has an inverse; what rows' steps keep.
-/
import Derived.Test.YtmhhegkpkncebaaGauss
namespace Go.Proofs.Ytmhhegkpkncebaa
namespace Gf

def skip (p i : Nat) : Nat := if i < p then i else i + 1
def unskip (p l : Nat) : Nat := if l < p then l else l - 1
theorem unskip_skip (p i : Nat) : unskip p (skip p i) = i := by
  unfold skip unskip; by_cases h : i < p
  · rw [if_pos h, if_pos h]
  · rw [if_neg h, if_neg (by omega)]; omega
theorem skip_ne (p i : Nat) : skip p i ≠ p := by unfold skip; split <;> omega
theorem skip_lt {p i r : Nat} (h : i < r - 1) : skip p i < r := by unfold skip; split <;> omega
theorem xs_skip {f : Nat → Nat} {p : Nat} : ∀ {r : Nat}, p < r → xs f r = f p ^^^ xs (fun i => f (skip p i)) (r - 1)
  | 0, h => by omega
  | n + 1, h => by
    show xs f n ^^^ f n = f p ^^^ xs (fun i => f (skip p i)) n
    by_cases e : p = n
    · rw [e, Nat.xor_comm]
      congr 1
      exact xs_congr (fun i hi => by unfold skip; rw [if_pos hi])
    · have ih := xs_skip (f := f) (p := p) (r := n) (by omega)
      obtain ⟨k, rfl⟩ : ∃ k, n = k + 1 := ⟨n - 1, by omega⟩
      rw [ih]
      show (f p ^^^ xs (fun i => f (skip p i)) k) ^^^ f (k + 1) = f p ^^^ (xs (fun i => f (skip p i)) k ^^^ f (skip p k))
      rw [show skip p k = k + 1 from by unfold skip; rw [if_neg (by omega)], Nat.xor_assoc]

/-- More unknowns than equations: an answer that isn't nought. -/
theorem under : ∀ (s r : Nat) (A : Nat → Nat → Nat), B8 A → s < r → ∃ y, V8 y ∧ (∃ i, i < r ∧ y i ≠ 0) ∧ ∀ j, j < s → vm r y A j = 0
  | 0, r, A, _, h => ⟨fun i => if i = 0 then 1 else 0, fun i => by show (if i = 0 then 1 else 0) < 256; split <;> decide, ⟨0, h, by simp⟩, fun j hj => by omega⟩
  | s + 1, r, A, hA, h => by
    by_cases hall : ∀ i, i < r → A i s = 0
    · obtain ⟨y, hy, hne, h0⟩ := under s r A hA (by omega)
      refine ⟨y, hy, hne, fun j hj => ?_⟩
      by_cases e : j = s
      · rw [e]; exact xs_zero (fun l hl => by rw [hall l hl]; exact mul_zero _)
      · exact h0 j (by omega)
    · obtain ⟨p, hp, hps⟩ : ∃ p, p < r ∧ A p s ≠ 0 := by
        apply Classical.byContradiction
        intro hn
        exact hall (fun i hi => Classical.byContradiction (fun h1 => hn ⟨i, hi, h1⟩))
      obtain ⟨y', hy', ⟨i0, hi0, hne⟩, h0⟩ := under s (r - 1) (fun i j => A (skip p i) j ^^^ mul (mul (A (skip p i) s) (inv (A p s))) (A p j)) (fun i j => xor_lt (hA _ _) (mul_lt _ _)) (by omega)
      refine ⟨fun l => if l = p then xs (fun i => mul (y' i) (mul (A (skip p i) s) (inv (A p s)))) (r - 1) else y' (unskip p l), fun l => ?_, ⟨skip p i0, skip_lt hi0, ?_⟩, fun j hj => ?_⟩
      · show (if l = p then _ else _) < 256
        split
        · exact xs_lt (fun _ => mul_lt _ _) _
        · exact hy' _
      · show (if skip p i0 = p then _ else y' (unskip p (skip p i0))) ≠ 0
        rw [if_neg (skip_ne p i0), unskip_skip]; exact hne
      · show xs (fun l => mul (if l = p then xs (fun i => mul (y' i) (mul (A (skip p i) s) (inv (A p s)))) (r - 1) else y' (unskip p l)) (A l j)) r = 0
        rw [xs_skip hp, if_pos rfl]
        have e1 : xs (fun i => mul (if skip p i = p then xs (fun i => mul (y' i) (mul (A (skip p i) s) (inv (A p s)))) (r - 1) else y' (unskip p (skip p i))) (A (skip p i) j)) (r - 1) = xs (fun i => mul (y' i) (A (skip p i) j)) (r - 1) :=
          xs_congr (fun i _ => by rw [if_neg (skip_ne p i), unskip_skip])
        rw [e1, xs_mul (hA p j) (fun _ => mul_lt _ _), ← xs_xor]
        have e2 : xs (fun i => mul (mul (y' i) (mul (A (skip p i) s) (inv (A p s)))) (A p j) ^^^ mul (y' i) (A (skip p i) j)) (r - 1) = xs (fun i => mul (y' i) (A (skip p i) j ^^^ mul (mul (A (skip p i) s) (inv (A p s))) (A p j))) (r - 1) :=
          xs_congr (fun i _ => by rw [mul_assoc (hy' i) (mul_lt _ _) (hA p j), Nat.xor_comm, ← mul_xor (hy' i) (hA _ _) (mul_lt _ _)])
        rw [e2]
        by_cases e : j = s
        · rw [e]
          refine xs_zero (fun i _ => ?_)
          rw [mul_assoc (hA _ _) (inv_lt _) (hA p s), mul_comm (inv (A p s)), mul_inv (hA p s) hps, mul_one (hA _ _), Nat.xor_self, mul_zero]
        · exact h0 j (by omega)

/-- The first r rows: only nought of them gives nought. -/
def Indep (r n : Nat) (B : Nat → Nat → Nat) : Prop := ∀ y, V8 y → (∀ j, j < n → vm r y B j = 0) → ∀ i, i < r → y i = 0
def IsProd (m s n : Nat) (M C B : Nat → Nat → Nat) : Prop := ∀ i, i < m → ∀ j, j < n → M i j = mm s C B i j
/-- The rank of m rows of n is r. -/
structure RankIs (m n r : Nat) (M : Nat → Nat → Nat) : Prop where
  ex : ∃ C B D, B8 C ∧ B8 B ∧ B8 D ∧ IsProd m r n M C B ∧ Indep r n B ∧ IsProd r m n B D M
theorem vm_mm {y : Nat → Nat} {A B : Nat → Nat → Nat} (hy : V8 y) (hA : B8 A) (hB : B8 B) (r s j : Nat) : vm r y (mm s A B) j = vm s (vm r y A) B j :=
  (mm_assoc (A := fun _ l => y l) (fun _ l => hy l) hA hB r s 0 j).symm
theorem vm_V8 (r : Nat) (y : Nat → Nat) (A : Nat → Nat → Nat) : V8 (vm r y A) := fun _ => xs_lt (fun _ => mul_lt _ _) r
/-- What goes through s rows has a rank of s at most. -/
theorem rank_le {m n r s : Nat} {M C' B' : Nat → Nat → Nat} (_hM : B8 M) (hC : B8 C') (hB : B8 B') (h : RankIs m n r M) (h' : IsProd m s n M C' B') : r ≤ s := by
  obtain ⟨C, B, D, _, hB8, hD, _, hI, hBD⟩ := h.ex
  apply Classical.byContradiction
  intro hlt
  obtain ⟨y, hy, ⟨i, hi, hne⟩, h0⟩ := under s r (mm m D C') (mm_B8 m D C') (by omega)
  refine hne (hI y hy (fun j hj => ?_) i hi)
  have e1 : vm r y B j = vm r y (mm s (mm m D C') B') j := xs_congr (fun l hl => by
    rw [hBD l hl j hj, mm_assoc hD hC hB]
    congr 1
    exact mm_congr (fun _ _ => rfl) (fun q hq => h' q hq j hj))
  rw [e1, vm_mm hy (mm_B8 m D C') hB]
  exact xs_zero (fun l hl => by rw [h0 l hl]; exact zero_mul _)
theorem rank_unique {m n r s : Nat} {M : Nat → Nat → Nat} (hM : B8 M) (h : RankIs m n r M) (h' : RankIs m n s M) : r = s := by
  obtain ⟨C, B, _, hC, hB, _, hP, _, _⟩ := h.ex
  obtain ⟨C', B', _, hC', hB', _, hP', _, _⟩ := h'.ex
  have h1 := rank_le hM hC' hB' h hP'
  have h2 := rank_le hM hC hB h' hP
  omega
/-- A product's rank is no greater than the first one's .. -/
theorem rank_mul_left {m k n r s : Nat} {X Y M : Nat → Nat → Nat} (_hX : B8 X) (hY : B8 Y) (hM : B8 M) (hP : IsProd m k n M X Y) (h : RankIs m n r M) (hx : RankIs m k s X) : r ≤ s := by
  obtain ⟨C, B, _, hC, hB, _, hPX, _, _⟩ := hx.ex
  refine rank_le hM hC (mm_B8 k B Y) h (fun i hi j hj => ?_)
  rw [hP i hi j hj, ← mm_assoc hC hB hY]
  exact mm_congr (fun l hl => hPX i hi l hl) (fun _ _ => rfl)
/-- .. nor than the second one's. -/
theorem rank_mul_right {m k n r s : Nat} {X Y M : Nat → Nat → Nat} (hX : B8 X) (_hY : B8 Y) (hM : B8 M) (hP : IsProd m k n M X Y) (h : RankIs m n r M) (hy : RankIs k n s Y) : r ≤ s := by
  obtain ⟨C, B, _, hC, hB, _, hPY, _, _⟩ := hy.ex
  refine rank_le hM (mm_B8 k X C) hB h (fun i hi j hj => ?_)
  rw [hP i hi j hj, mm_assoc hX hC hB]
  exact mm_congr (fun _ _ => rfl) (fun l hl => hPY l hl j hj)
theorem indep_idm (n : Nat) : Indep n n idm := by
  intro y hy h i hi
  rw [← h i hi]
  exact (mm_id_right (A := fun _ l => y l) (fun _ l => hy l) hi 0).symm
/-- A square that has an inverse has its size as its rank. -/
theorem rank_of_inv {n : Nat} {M V : Nat → Nat → Nat} (hM : B8 M) (hV : B8 V) (h : EqN n (mm n V M) idm) : RankIs n n n M :=
  ⟨M, idm, V, hM, idm_B8, hV, fun i _ _ hj => (mm_id_right hM hj i).symm, indep_idm n, fun i hi j hj => (h i hi j hj).symm⟩
/-- One that has a kernel hasn't. -/
theorem rank_of_ker {n r : Nat} {M : Nat → Nat → Nat} (hM : B8 M) (h : RankIs n n r M) (hk : ¬ Inj n M) : r < n := by
  obtain ⟨x, hx, h0, p, hp, hxp⟩ : ∃ x, V8 x ∧ (∀ i, i < n → mv n M x i = 0) ∧ ∃ p, p < n ∧ x p ≠ 0 := by
    apply Classical.byContradiction
    intro hn
    exact hk (fun x hx h0 i hi => Classical.byContradiction (fun h1 => hn ⟨x, hx, h0, i, hi, h1⟩))
  have hle := rank_le (s := n - 1) (C' := fun i l => M i (skip p l)) (B' := fun l j => if j = p then mul (x (skip p l)) (inv (x p)) else if skip p l = j then 1 else 0) hM (fun i l => hM _ _)
    (fun l j => by
      show (if j = p then _ else _) < 256
      split
      · exact mul_lt _ _
      · split <;> decide) h (fun i hi j hj => ?_)
  · omega
  · show M i j = xs (fun l => mul (M i (skip p l)) (if j = p then mul (x (skip p l)) (inv (x p)) else if skip p l = j then 1 else 0)) (n - 1)
    by_cases e : j = p
    · rw [e]
      have h1 := h0 i hi
      have h2 : mul (M i p) (x p) ^^^ xs (fun l => mul (M i (skip p l)) (x (skip p l))) (n - 1) = 0 := by
        rw [← h1]; exact (xs_skip (f := fun l => mul (M i l) (x l)) hp).symm
      have h3 := xor_zero_eq h2
      rw [xs_congr (g := fun l => mul (mul (M i (skip p l)) (x (skip p l))) (inv (x p))) (fun l _ => by rw [if_pos rfl, mul_assoc (hM _ _) (hx _) (inv_lt _)])]
      rw [← xs_mul (inv_lt _) (fun _ => mul_lt _ _), ← h3, mul_assoc (hM i p) (hx p) (inv_lt _), mul_inv (hx p) hxp, mul_one (hM i p)]
    · have hun : skip p (unskip p j) = j := by
        unfold skip unskip
        by_cases h1 : j < p
        · rw [if_pos h1, if_pos h1]
        · rw [if_neg h1, if_neg (by omega)]; omega
      have hul : unskip p j < n - 1 := by unfold unskip; split <;> omega
      rw [xs_single hul (fun l _ hne => by
        rw [if_neg e, if_neg (fun e' => hne (by rw [← e', unskip_skip])), mul_zero])]
      rw [hun, if_neg e, if_pos rfl, mul_one (hM i j)]

/- What rows' steps keep: each one's rows are made of the other one's. -/
structure Span (m n : Nat) (M A : Nat → Nat → Nat) : Prop where
  b : B8 A
  ex : ∃ C D, B8 C ∧ B8 D ∧ IsProd m m n M C A ∧ IsProd m m n A D M
theorem Span.start {m n : Nat} {M A : Nat → Nat → Nat} (hM : B8 M) (hA : B8 A) (h : ∀ i, i < m → ∀ j, j < n → A i j = M i j) : Span m n M A :=
  ⟨hA, idm, idm, idm_B8, idm_B8, fun i hi j hj => by rw [mm_id_left hA hi, h i hi j hj], fun i hi j hj => by rw [mm_id_left hM hi, h i hi j hj]⟩
theorem Span.step {m n : Nat} {M A A' T : Nat → Nat → Nat} (h : Span m n M A) (hM : B8 M) (hA' : B8 A') (hT : B8 T) (hback : IsProd m m n A T A') (U : Nat → Nat → Nat) (hU : B8 U) (hfwd : IsProd m m n A' U A) : Span m n M A' := by
  obtain ⟨C, D, hC, hD, h1, h2⟩ := h.ex
  refine ⟨hA', mm m C T, mm m U D, mm_B8 m C T, mm_B8 m U D, fun i hi j hj => ?_, fun i hi j hj => ?_⟩
  · rw [h1 i hi j hj, mm_assoc hC hT hA']
    exact mm_congr (fun _ _ => rfl) (fun l hl => hback l hl j hj)
  · rw [hfwd i hi j hj, mm_assoc hU hD hM]
    exact mm_congr (fun _ _ => rfl) (fun l hl => h2 l hl j hj)
theorem swapR_swapR (p q : Nat) (A : Nat → Nat → Nat) (i j : Nat) : swapR p q (swapR p q A) i j = A i j := by
  unfold swapR
  by_cases e : i = p
  · by_cases e2 : q = p
    · simp [e, e2]
    · simp [e, e2]
  · by_cases e2 : i = q
    · by_cases e3 : q = p
      · exfalso; omega
      · simp [e2, e3]
    · simp [e, e2]
theorem Span.swap {m n p q : Nat} {M A : Nat → Nat → Nat} (h : Span m n M A) (hM : B8 M) (hp : p < m) (hq : q < m) : Span m n M (swapR p q A) := by
  have key : ∀ X, B8 X → IsProd m m n (swapR p q X) (swapR p q idm) X := fun X hX i hi j _ => by
    rw [swapR_mm]
    unfold swapR
    by_cases e : i = p
    · simp only [if_pos e]; exact (mm_id_left hX hq j).symm
    · by_cases e2 : i = q
      · simp only [if_neg e, if_pos e2]; exact (mm_id_left hX hp j).symm
      · simp only [if_neg e, if_neg e2]; exact (mm_id_left hX hi j).symm
  refine h.step hM (swapR_B8 h.b p q) (swapR_B8 idm_B8 p q) (fun i hi j hj => ?_) (swapR p q idm) (swapR_B8 idm_B8 p q) (key A h.b)
  have := key (swapR p q A) (swapR_B8 h.b p q) i hi j hj
  rw [swapR_swapR] at this
  exact this
theorem Span.scale {m n p v : Nat} {M A : Nat → Nat → Nat} (h : Span m n M A) (hM : B8 M) (hp : p < m) (hv : v < 256) (v0 : v ≠ 0) : Span m n M (scaleR p v A) := by
  have key : ∀ u, u < 256 → ∀ X, B8 X → IsProd m m n (scaleR p u X) (scaleR p u idm) X := fun u hu X hX i hi j _ => by
    rw [scaleR_mm idm_B8 hX p m hu]
    unfold scaleR
    by_cases e : i = p
    · simp only [if_pos e]; rw [mm_id_left hX hp j]
    · simp only [if_neg e]; exact (mm_id_left hX hi j).symm
  refine h.step hM (scaleR_B8 h.b p v) (scaleR_B8 idm_B8 p (inv v)) (fun i hi j hj => ?_) (scaleR p v idm) (scaleR_B8 idm_B8 p v) (key v hv A h.b)
  have e1 := key (inv v) (inv_lt v) (scaleR p v A) (scaleR_B8 h.b p v) i hi j hj
  rw [← e1]
  unfold scaleR
  by_cases e : i = p
  · simp only [if_pos e, if_true]
    rw [mul_assoc (h.b p j) hv (inv_lt v), mul_inv hv v0, mul_one (h.b p j), e]
  · simp only [if_neg e]
theorem Span.add {m n r p a : Nat} {M A : Nat → Nat → Nat} (h : Span m n M A) (hM : B8 M) (hr : r < m) (hp : p < m) (hne : r ≠ p) (ha : a < 256) : Span m n M (addR r p a A) := by
  have key : ∀ X, B8 X → IsProd m m n (addR r p a X) (addR r p a idm) X := fun X hX i hi j _ => by
    rw [addR_mm idm_B8 hX r p m ha]
    unfold addR
    by_cases e : i = r
    · simp only [if_pos e]; rw [mm_id_left hX hr j, mm_id_left hX hp j]
    · simp only [if_neg e]; exact (mm_id_left hX hi j).symm
  refine h.step hM (addR_B8 h.b r p a) (addR_B8 idm_B8 r p a) (fun i hi j hj => ?_) (addR r p a idm) (addR_B8 idm_B8 r p a) (key A h.b)
  rw [← key (addR r p a A) (addR_B8 h.b r p a) i hi j hj]
  unfold addR
  by_cases e : i = r
  · simp only [if_pos e, if_true, if_neg (fun e' : p = r => hne e'.symm)]
    rw [Nat.xor_assoc, Nat.xor_self, Nat.xor_zero, e]
  · simp only [if_neg e]
/-- Rows with a pivot each, nought under it. -/
theorem indep_of_pivots {r n : Nat} {B : Nat → Nat → Nat} (pc : Nat → Nat) (h1 : ∀ i, i < r → pc i < n ∧ B i (pc i) ≠ 0) (h2 : ∀ i l, i < l → l < r → B l (pc i) = 0) : Indep r n B := by
  intro y hy h0 i
  induction i using Nat.strongRecOn with
  | _ i ih =>
    intro hi
    have h := h0 (pc i) (h1 i hi).1
    have e : vm r y B (pc i) = mul (y i) (B i (pc i)) := xs_single hi (fun l hl hne => by
      by_cases hli : l < i
      · rw [ih l hli hl]; exact zero_mul _
      · rw [h2 i l (by omega) hl]; exact mul_zero _)
    rw [e] at h
    rcases (mul_eq_zero _ _).1 h with h3 | h3
    · exact h3
    · exact absurd h3 (h1 i hi).2
/-- The end of an elimination tells the rank. -/
theorem Span.rank {m n r : Nat} {M A : Nat → Nat → Nat} (h : Span m n M A) (hr : r ≤ m) (hz : ∀ i, r ≤ i → i < m → ∀ j, j < n → A i j = 0) (hi : Indep r n A) : RankIs m n r M := by
  obtain ⟨C, D, hC, hD, h1, h2⟩ := h.ex
  refine ⟨C, A, D, hC, h.b, hD, fun i hi' j hj => ?_, hi, fun i hi' j hj => h2 i (by omega) j hj⟩
  rw [h1 i hi' j hj]
  obtain ⟨d, rfl⟩ : ∃ d, m = r + d := ⟨m - r, by omega⟩
  show xs (fun l => mul (C i l) (A l j)) (r + d) = xs (fun l => mul (C i l) (A l j)) r
  clear h1 h2 hi'
  have key : ∀ e, e ≤ d → xs (fun l => mul (C i l) (A l j)) (r + e) = xs (fun l => mul (C i l) (A l j)) r := by
    intro e
    induction e with
    | zero => intro _; rfl
    | succ e ih =>
      intro he
      show xs (fun l => mul (C i l) (A l j)) (r + e) ^^^ mul (C i (r + e)) (A (r + e) j) = _
      rw [ih (by omega), hz (r + e) (by omega) (by omega) j hj, mul_zero, Nat.xor_zero]
  exact key d (Nat.le_refl _)
end Gf
end Go.Proofs.Ytmhhegkpkncebaa
