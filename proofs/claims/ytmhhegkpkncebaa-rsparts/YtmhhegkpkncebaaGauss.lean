/-
  GAUSS AND JORDAN, no program in sight: one step at a pivot keeps the tie between both halves and brings one column more to the identity's; where no pivot is left there is a kernel; at the end the right half is the inverse.
-/
import Derived.Test.YtmhhegkpkncebaaLin
namespace Go.Proofs.Ytmhhegkpkncebaa
namespace Gf

theorem xs_two {f : Nat → Nat} {n a b : Nat} (hab : a < b) (hb : b < n) (h : ∀ i, i < n → i ≠ a → i ≠ b → f i = 0) : xs f n = f a ^^^ f b := by
  induction n with
  | zero => omega
  | succ n ih =>
    show xs f n ^^^ f n = _
    by_cases e : b = n
    · subst e; rw [xs_single hab (fun i hi hne => h i (by omega) hne (by omega))]
    · rw [ih (by omega) (fun i hi h1 h2 => h i (by omega) h1 h2), h n (by omega) (by omega) (by omega), Nat.xor_zero]

/-- A multiple of row c is added to each other row. -/
def addAll (c : Nat) (a : Nat → Nat) (A : Nat → Nat → Nat) : Nat → Nat → Nat := fun i j => if i = c then A c j else A i j ^^^ mul (a i) (A c j)
theorem addAll_B8 {A : Nat → Nat → Nat} (h : B8 A) (c : Nat) (a : Nat → Nat) : B8 (addAll c a A) := by
  intro i j; unfold addAll; split
  · exact h _ _
  · exact xor_lt (h _ _) (mul_lt _ _)
theorem addAll_mm {R M : Nat → Nat → Nat} {a : Nat → Nat} (hR : B8 R) (hM : B8 M) (ha : V8 a) (c n i j : Nat) : mm n (addAll c a R) M i j = addAll c a (mm n R M) i j := by
  unfold addAll mm; by_cases e : i = c
  · simp only [if_pos e]
  · simp only [if_neg e]
    rw [mul_xs (ha i) (fun _ => mul_lt _ _), ← xs_xor]
    refine xs_congr (fun l _ => ?_)
    rw [xor_mul (hM l j) (hR i l) (mul_lt _ _), mul_assoc (ha i) (hR c l) (hM l j)]
theorem addAll_inj {n c : Nat} {a : Nat → Nat} {R : Nat → Nat → Nat} (hR : B8 R) (ha : V8 a) (hc : c < n) (h : Inj n R) : Inj n (addAll c a R) := by
  intro x hx h0
  refine h x hx (fun i hi => ?_)
  have em : ∀ i, mv n (addAll c a R) x i = addAll c a (fun r _ => mv n R x r) i 0 := fun i => addAll_mm (M := fun l _ => x l) hR (fun l _ => hx l) ha c n i 0
  have hc0 : mv n R x c = 0 := by
    have := h0 c hc
    rw [em] at this
    unfold addAll at this
    rwa [if_pos rfl] at this
  have e0 := h0 i hi
  rw [em] at e0
  unfold addAll at e0
  by_cases e : i = c
  · rw [e]; exact hc0
  · rw [if_neg e] at e0
    have e1 : mv n R x i ^^^ mul (a i) (mv n R x c) = 0 := e0
    rwa [hc0, mul_zero, Nat.xor_zero] at e1

/-- The pivot's step on rows of any width. -/
def piv (c p : Nat) (A : Nat → Nat → Nat) : Nat → Nat → Nat :=
  let A1 := swapR c p A
  let A2 := scaleR c (inv (A1 c c)) A1
  addAll c (fun i => A2 i c) A2
theorem piv_B8 {A : Nat → Nat → Nat} (h : B8 A) (c p : Nat) : B8 (piv c p A) := addAll_B8 (scaleR_B8 (swapR_B8 h c p) c _) c _

/-- The right half, from column n on. -/
def half (n : Nat) (A : Nat → Nat → Nat) : Nat → Nat → Nat := fun i l => A i (n + l)
theorem half_B8 {A : Nat → Nat → Nat} (h : B8 A) (n : Nat) : B8 (half n A) := fun i l => h i (n + l)
/-- The tie: the left half is the right half's product with M; the right half brings only nought to nought. -/
structure Aug (n : Nat) (M A : Nat → Nat → Nat) : Prop where
  b : B8 A
  tie : ∀ i, i < n → ∀ j, j < n → A i j = mm n (half n A) M i j
  inj : Inj n (half n A)

theorem Aug.start {n : Nat} {M A : Nat → Nat → Nat} (hM : B8 M) (hb : B8 A) (hl : ∀ i, i < n → ∀ j, j < n → A i j = M i j) (hr : ∀ i, i < n → ∀ j, j < n → A i (n + j) = idm i j) : Aug n M A := by
  refine ⟨hb, fun i hi j hj => ?_, fun x hx h0 i hi => ?_⟩
  · rw [hl i hi j hj, mm_congr (A' := idm) (B' := M) (fun l hl' => hr i hi l hl') (fun _ _ => rfl), mm_id_left hM hi]
  · refine inj_idm n x hx (fun r hr' => ?_) i hi
    rw [← h0 r hr']
    exact xs_congr (fun l hl' => by rw [show half n A r l = idm r l from hr r hr' l hl'])

theorem half_swap (n p q : Nat) (A : Nat → Nat → Nat) : half n (swapR p q A) = swapR p q (half n A) := by
  funext i l; unfold half swapR; by_cases e : i = p
  · simp only [if_pos e]
  · by_cases e2 : i = q
    · simp only [if_neg e, if_pos e2]
    · simp only [if_neg e, if_neg e2]
theorem half_scale (n p v : Nat) (A : Nat → Nat → Nat) : half n (scaleR p v A) = scaleR p v (half n A) := rfl
theorem half_addAll (n c : Nat) (a : Nat → Nat) (A : Nat → Nat → Nat) : half n (addAll c a A) = addAll c a (half n A) := rfl

theorem Aug.swap {n p q : Nat} {M A : Nat → Nat → Nat} (h : Aug n M A) (hp : p < n) (hq : q < n) : Aug n M (swapR p q A) := by
  refine ⟨swapR_B8 h.b p q, fun i hi j hj => ?_, ?_⟩
  · rw [half_swap, swapR_mm]
    unfold swapR
    by_cases e : i = p
    · simp only [if_pos e]; exact h.tie q hq j hj
    · by_cases e2 : i = q
      · simp only [if_neg e, if_pos e2]; exact h.tie p hp j hj
      · simp only [if_neg e, if_neg e2]; exact h.tie i hi j hj
  · rw [half_swap]; exact swapR_inj hp hq h.inj
theorem Aug.scale {n p v : Nat} {M A : Nat → Nat → Nat} (hM : B8 M) (h : Aug n M A) (hp : p < n) (hv : v < 256) (v0 : v ≠ 0) : Aug n M (scaleR p v A) := by
  refine ⟨scaleR_B8 h.b p v, fun i hi j hj => ?_, ?_⟩
  · rw [half_scale, scaleR_mm (half_B8 h.b n) hM p n hv]
    unfold scaleR
    by_cases e : i = p
    · simp only [if_pos e]; rw [h.tie p hp j hj]
    · simp only [if_neg e]; exact h.tie i hi j hj
  · rw [half_scale]; exact scaleR_inj (half_B8 h.b n) hv v0 h.inj
theorem Aug.add {n c : Nat} {a : Nat → Nat} {M A : Nat → Nat → Nat} (hM : B8 M) (h : Aug n M A) (hc : c < n) (ha : V8 a) : Aug n M (addAll c a A) := by
  refine ⟨addAll_B8 h.b c a, fun i hi j hj => ?_, ?_⟩
  · rw [half_addAll, addAll_mm (half_B8 h.b n) hM ha]
    unfold addAll
    by_cases e : i = c
    · simp only [if_pos e]; exact h.tie c hc j hj
    · simp only [if_neg e]; rw [h.tie i hi j hj, h.tie c hc j hj]
  · rw [half_addAll]; exact addAll_inj (half_B8 h.b n) ha hc h.inj
theorem Aug.addOne {n r p a : Nat} {M A : Nat → Nat → Nat} (hM : B8 M) (h : Aug n M A) (hr : r < n) (hp : p < n) (hne : r ≠ p) (ha : a < 256) : Aug n M (addR r p a A) := by
  refine ⟨addR_B8 h.b r p a, fun i hi j hj => ?_, ?_⟩
  · show _ = mm n (addR r p a (half n A)) M i j
    rw [addR_mm (half_B8 h.b n) hM r p n ha]
    unfold addR
    by_cases e : i = r
    · simp only [if_pos e]; rw [h.tie r hr j hj, h.tie p hp j hj]
    · simp only [if_neg e]; exact h.tie i hi j hj
  · show Inj n (addR r p a (half n A)); exact addR_inj (half_B8 h.b n) ha hp hne h.inj
theorem Aug.piv {n c p : Nat} {M A : Nat → Nat → Nat} (hM : B8 M) (h : Aug n M A) (hc : c < n) (hp : p < n) (h0 : A p c ≠ 0) : Aug n M (piv c p A) := by
  have h1 := h.swap hc hp
  have hv : swapR c p A c c ≠ 0 := by unfold swapR; simpa using h0
  have h2 := h1.scale hM hc (inv_lt (swapR c p A c c)) (inv_ne hv)
  exact h2.add hM hc (fun i => h2.b i c)

/-- The first c columns are the identity's. -/
def Cols (n c : Nat) (A : Nat → Nat → Nat) : Prop := ∀ i, i < n → ∀ j, j < c → A i j = idm i j
theorem Cols.piv {n c p : Nat} {A : Nat → Nat → Nat} (hb : B8 A) (h : Cols n c A) (hcp : c ≤ p) (hp : p < n) (h0 : A p c ≠ 0) : Cols n (c + 1) (piv c p A) := by
  intro i hi j hj
  have z : ∀ r, r < n → c ≤ r → ∀ j, j < c → A r j = 0 := fun r hr hcr j hj => by
    rw [h r hr j hj]; unfold idm; rw [if_neg (by omega)]
  have hs : ∀ r, r < n → ∀ j, j < c → swapR c p A r j = idm r j := fun r hr j hj => by
    unfold swapR
    by_cases e1 : r = c
    · simp only [if_pos e1]; rw [z p hp hcp j hj]; unfold idm; rw [if_neg (by omega)]
    · by_cases e2 : r = p
      · simp only [if_neg e1, if_pos e2]; rw [z c (by omega) (Nat.le_refl _) j hj]; unfold idm; rw [if_neg (by omega)]
      · simp only [if_neg e1, if_neg e2]; exact h r hr j hj
  have hcc : swapR c p A c c = A p c := by unfold swapR; simp
  have key : ∀ j, scaleR c (inv (swapR c p A c c)) (swapR c p A) c j = mul (swapR c p A c j) (inv (A p c)) := fun j => by
    unfold scaleR; rw [if_pos rfl, hcc]
  have k1 : scaleR c (inv (swapR c p A c c)) (swapR c p A) c c = 1 := by rw [key, hcc, mul_inv (hb p c) h0]
  have k0 : ∀ j, j < c → scaleR c (inv (swapR c p A c c)) (swapR c p A) c j = 0 := fun j hj => by
    rw [key, hs c (by omega) j hj]; unfold idm; rw [if_neg (by omega), zero_mul]
  show addAll c (fun i => scaleR c (inv (swapR c p A c c)) (swapR c p A) i c) (scaleR c (inv (swapR c p A c c)) (swapR c p A)) i j = _
  unfold addAll
  by_cases ei : i = c
  · rw [if_pos ei, ei]
    by_cases ej : j = c
    · rw [ej, k1]; unfold idm; rw [if_pos rfl]
    · rw [k0 j (by omega)]; unfold idm; rw [if_neg (by omega)]
  · rw [if_neg ei]
    by_cases ej : j = c
    · rw [ej, k1, mul_one (scaleR_B8 (swapR_B8 hb c p) c _ i c), Nat.xor_self]; unfold idm; rw [if_neg ei]
    · rw [k0 j (by omega), mul_zero, Nat.xor_zero]
      unfold scaleR; rw [if_neg ei]; exact hs i hi j (by omega)

/-- Where no pivot is left there is a kernel. -/
theorem ker_of_stuck {n c : Nat} {L : Nat → Nat → Nat} (hc : c < n) (hb : B8 L) (hd : Cols n c L) (h0 : ∀ i, c ≤ i → i < n → L i c = 0) : ∃ x, V8 x ∧ x c = 1 ∧ ∀ i, i < n → mv n L x i = 0 := by
  refine ⟨fun l => if l < c then L l c else if l = c then 1 else 0, fun l => ?_, by simp, fun i hi => ?_⟩
  · show (if l < c then L l c else if l = c then 1 else 0) < 256
    split
    · exact hb l c
    · split <;> decide
  · show xs (fun l => mul (L i l) (if l < c then L l c else if l = c then 1 else 0)) n = 0
    by_cases hic : i < c
    · rw [xs_two hic hc (fun l hl h1 h2 => ?_)]
      · have e1 : L i i = 1 := by rw [hd i hi i hic]; unfold idm; rw [if_pos rfl]
        simp only [if_pos hic, Nat.lt_irrefl, if_false, if_true]
        rw [e1, mul_comm 1, mul_one (hb i c), Nat.xor_self]
      · by_cases hlc : l < c
        · rw [hd i hi l hlc]; unfold idm; rw [if_neg (fun e => h1 e.symm)]; exact zero_mul _
        · rw [if_neg hlc, if_neg h2]; exact mul_zero _
    · refine xs_zero (fun l hl => ?_)
      by_cases hlc : l < c
      · rw [hd i hi l hlc]; unfold idm; rw [if_neg (by omega)]; exact zero_mul _
      · by_cases e : l = c
        · rw [e, h0 i (by omega) hi]; exact zero_mul _
        · rw [if_neg hlc, if_neg e]; exact mul_zero _
/-- .. and so M has one: no inverse. -/
theorem Aug.stuck {n c : Nat} {M A : Nat → Nat → Nat} (hM : B8 M) (h : Aug n M A) (hc : c < n) (hd : Cols n c A) (h0 : ∀ i, c ≤ i → i < n → A i c = 0) : ¬ Inj n M := by
  intro hi
  obtain ⟨x, hx, x1, hk⟩ := ker_of_stuck hc h.b hd h0
  have hMx : ∀ i, i < n → mv n M x i = 0 := by
    refine h.inj (mv n M x) (mv_V8 n M x) (fun i hi' => ?_)
    rw [← mv_mm (half_B8 h.b n) hM hx, ← hk i hi']
    exact xs_congr (fun l hl => by rw [h.tie i hi' l hl])
  have := hi x hx hMx c hc
  omega
/-- At the end: the inverse, from both sides; M brings only nought to nought. -/
theorem Aug.done {n : Nat} {M A : Nat → Nat → Nat} (hM : B8 M) (h : Aug n M A) (hd : Cols n n A) : EqN n (mm n (half n A) M) idm ∧ EqN n (mm n M (half n A)) idm ∧ Inj n M := by
  have h1 : EqN n (mm n (half n A) M) idm := fun i hi j hj => by rw [← h.tie i hi j hj]; exact hd i hi j hj
  exact ⟨h1, right_inv (half_B8 h.b n) hM h1 h.inj, inj_of_left (half_B8 h.b n) hM h1⟩
end Gf
end Go.Proofs.Ytmhhegkpkncebaa
