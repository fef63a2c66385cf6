/-
  THE REDUCTION, no program in sight: what one column's step keeps; the end tells the rank, and whether there is an inverse.
-/
import Derived.Test.YtmhhegkpkncebaaRank
namespace Go.Proofs.Ytmhhegkpkncebaa
namespace Gf

/-- The column c cleared by row r. -/
def clr (r c : Nat) (A : Nat → Nat → Nat) : Nat → Nat → Nat :=
  addAll r (fun i => scaleR r (inv (A r c)) A i c) (scaleR r (inv (A r c)) A)
theorem clr_B8 {A : Nat → Nat → Nat} (h : B8 A) (r c : Nat) : B8 (clr r c A) := addAll_B8 (scaleR_B8 h r _) r _
/-- What the reduction does to the m rows M, step by step. -/
inductive Steps (m : Nat) (M : Nat → Nat → Nat) : (Nat → Nat → Nat) → Prop
  | start : Steps m M M
  | swap {A : Nat → Nat → Nat} {p q : Nat} : Steps m M A → p < m → q < m → Steps m M (swapR p q A)
  | clr {A : Nat → Nat → Nat} {r c : Nat} : Steps m M A → r < m → A r c ≠ 0 → Steps m M (clr r c A)
theorem Steps.b {m : Nat} {M A : Nat → Nat → Nat} (h : Steps m M A) (hM : B8 M) : B8 A := by
  induction h with
  | start => exact hM
  | swap _ _ _ ih => exact swapR_B8 ih _ _
  | clr _ _ _ ih => exact clr_B8 ih _ _
theorem Steps.aug {n : Nat} {M A0 A : Nat → Nat → Nat} (h : Steps n A0 A) (hM : B8 M) (ha : Aug n M A0) : Aug n M A := by
  induction h with
  | start => exact ha
  | swap _ hp hq ih => exact ih.swap hp hq
  | clr _ hr h0 ih =>
    have h1 := ih.scale hM hr (inv_lt _) (inv_ne h0)
    exact h1.add hM hr (fun i => h1.b i _)
theorem addAll_twice {A : Nat → Nat → Nat} {a : Nat → Nat} (c i j : Nat) : addAll c a (addAll c a A) i j = A i j := by
  unfold addAll
  by_cases e : i = c
  · simp only [if_pos e, if_true]; rw [e]
  · simp only [if_neg e, if_true]; rw [Nat.xor_assoc, Nat.xor_self, Nat.xor_zero]
theorem Span.addAll {m n c : Nat} {a : Nat → Nat} {M A : Nat → Nat → Nat} (h : Span m n M A) (hM : B8 M) (hc : c < m) (ha : V8 a) : Span m n M (addAll c a A) := by
  have key : ∀ X, B8 X → IsProd m m n (Gf.addAll c a X) (Gf.addAll c a idm) X := fun X hX i hi j _ => by
    rw [addAll_mm idm_B8 hX ha]
    unfold Gf.addAll
    by_cases e : i = c
    · simp only [if_pos e]; exact (mm_id_left hX hc j).symm
    · simp only [if_neg e]; rw [mm_id_left hX hi j, mm_id_left hX hc j]
  refine h.step hM (addAll_B8 h.b c a) (addAll_B8 idm_B8 c a) (fun i hi j hj => ?_) (Gf.addAll c a idm) (addAll_B8 idm_B8 c a) (key A h.b)
  rw [← key (Gf.addAll c a A) (addAll_B8 h.b c a) i hi j hj, addAll_twice]
theorem Steps.span {m n : Nat} {M A0 A : Nat → Nat → Nat} (h : Steps m A0 A) (hM : B8 M) (hs : Span m n M A0) : Span m n M A := by
  induction h with
  | start => exact hs
  | swap _ hp hq ih => exact ih.swap hM hp hq
  | clr _ hr h0 ih =>
    have h1 := ih.scale hM hr (inv_lt _) (inv_ne h0)
    exact h1.addAll hM hr (fun i => h1.b i _)

/-- c columns are gone through, r of them have a pivot. -/
structure Red (m c r : Nat) (pc : Nat → Nat) (A : Nat → Nat → Nat) : Prop where
  le : r ≤ m
  lt : ∀ i, i < r → pc i < c
  mono : ∀ i j, i < j → j < r → pc i < pc j
  one : ∀ i, i < r → ∀ l, l < m → A l (pc i) = idm l i
  zero : ∀ l, r ≤ l → l < m → ∀ j, j < c → A l j = 0
theorem Red.start (m : Nat) (pc : Nat → Nat) (A : Nat → Nat → Nat) : Red m 0 0 pc A :=
  ⟨by omega, fun i h => by omega, fun i j _ h => by omega, fun i h => by omega, fun l _ _ j h => by omega⟩
theorem Red.skip {m c r : Nat} {pc : Nat → Nat} {A : Nat → Nat → Nat} (h : Red m c r pc A) (h0 : ∀ i, r ≤ i → i < m → A i c = 0) : Red m (c + 1) r pc A :=
  ⟨h.le, fun i hi => by have := h.lt i hi; omega, h.mono, h.one, fun l h1 h2 j hj => by
    by_cases e : j = c
    · rw [e]; exact h0 l h1 h2
    · exact h.zero l h1 h2 j (by omega)⟩
theorem Red.step {m c r i : Nat} {pc : Nat → Nat} {A : Nat → Nat → Nat} (h : Red m c r pc A) (hb : B8 A) (hri : r ≤ i) (him : i < m) (h0 : A i c ≠ 0) :
    Red m (c + 1) (r + 1) (fun x => if x = r then c else pc x) (clr r c (swapR r i A)) := by
  have hrm : r < m := by omega
  have Sz : ∀ l, r ≤ l → l < m → ∀ j, j < c → swapR r i A l j = 0 := fun l h1 h2 j hj => by
    unfold swapR
    by_cases e : l = r
    · simp only [if_pos e]; exact h.zero i hri him j hj
    · by_cases e2 : l = i
      · simp only [if_neg e, if_pos e2]; exact h.zero r (Nat.le_refl _) hrm j hj
      · simp only [if_neg e, if_neg e2]; exact h.zero l h1 h2 j hj
  have So : ∀ x, x < r → ∀ l, l < m → swapR r i A l (pc x) = idm l x := fun x hx l hl => by
    by_cases e : r ≤ l
    · rw [Sz l e hl (pc x) (h.lt x hx)]; unfold idm; rw [if_neg (by omega)]
    · unfold swapR; rw [if_neg (by omega), if_neg (by omega)]; exact h.one x hx l hl
  have Sc : swapR r i A r c = A i c := by unfold swapR; rw [if_pos rfl]
  obtain ⟨S, hS⟩ : ∃ S, S = swapR r i A := ⟨_, rfl⟩
  have Sb : B8 S := by rw [hS]; exact swapR_B8 hb r i
  rw [← hS] at Sz So Sc ⊢
  have k1 : scaleR r (inv (S r c)) S r c = 1 := by unfold scaleR; rw [if_pos rfl, mul_inv (Sb r c) (by rw [Sc]; exact h0)]
  have k0 : ∀ j, j < c → scaleR r (inv (S r c)) S r j = 0 := fun j hj => by unfold scaleR; rw [if_pos rfl, Sz r (Nat.le_refl _) hrm j hj, zero_mul]
  have kl : ∀ l, l ≠ r → ∀ j, scaleR r (inv (S r c)) S l j = S l j := fun l hl j => by unfold scaleR; rw [if_neg hl]
  have cl : ∀ l, l ≠ r → clr r c S l c = 0 := fun l hl => by
    unfold clr addAll
    rw [if_neg hl]
    show scaleR r (inv (S r c)) S l c ^^^ mul (scaleR r (inv (S r c)) S l c) (scaleR r (inv (S r c)) S r c) = 0
    rw [k1, mul_one (scaleR_B8 Sb r _ l c), Nat.xor_self]
  have cr : clr r c S r c = 1 := by unfold clr addAll; rw [if_pos rfl, k1]
  have cj : ∀ l j, j < c → clr r c S l j = if l = r then 0 else S l j := fun l j hj => by
    unfold clr addAll
    by_cases e : l = r
    · rw [if_pos e, if_pos e, k0 j hj]
    · rw [if_neg e, if_neg e, k0 j hj, mul_zero, Nat.xor_zero, kl l e j]
  refine ⟨by omega, fun x hx => ?_, fun x y hxy hy => ?_, fun x hx l hl => ?_, fun l h1 h2 j hj => ?_⟩
  · show (if x = r then c else pc x) < c + 1
    by_cases e : x = r
    · rw [if_pos e]; omega
    · rw [if_neg e]; have := h.lt x (by omega); omega
  · show (if x = r then c else pc x) < (if y = r then c else pc y)
    rw [if_neg (by omega)]
    by_cases e : y = r
    · rw [if_pos e]; exact h.lt x (by omega)
    · rw [if_neg e]; exact h.mono x y hxy (by omega)
  · show clr r c S l (if x = r then c else pc x) = idm l x
    by_cases e : x = r
    · rw [if_pos e, e]
      by_cases e2 : l = r
      · rw [e2, cr]; unfold idm; rw [if_pos rfl]
      · rw [cl l e2]; unfold idm; rw [if_neg e2]
    · rw [if_neg e, cj l _ (h.lt x (by omega))]
      by_cases e2 : l = r
      · rw [if_pos e2]; unfold idm; rw [if_neg (by omega)]
      · rw [if_neg e2]; exact So x (by omega) l hl
  · by_cases e : j = c
    · rw [e]; exact cl l (by omega)
    · rw [cj l j (by omega), if_neg (by omega)]; exact Sz l (by omega) h2 j (by omega)

/-- The end tells the rank. -/
theorem Red.rank {m n r : Nat} {pc : Nat → Nat} {M A : Nat → Nat → Nat} (h : Red m n r pc A) (hs : Span m n M A) : RankIs m n r M := by
  refine hs.rank h.le h.zero (indep_of_pivots pc (fun i hi => ⟨h.lt i hi, ?_⟩) (fun i l hil hl => ?_))
  · rw [h.one i hi i (by have := h.le; omega)]; unfold idm; rw [if_pos rfl]; decide
  · rw [h.one i (by omega) l (by have := h.le; omega)]; unfold idm; rw [if_neg (by omega)]
/-- All columns have a pivot: they are the identity's. -/
theorem Red.cols {n : Nat} {pc : Nat → Nat} {A : Nat → Nat → Nat} (h : Red n n n pc A) : Cols n n A := by
  have hge : ∀ i, i < n → i ≤ pc i := by
    intro i
    induction i with
    | zero => intro _; omega
    | succ i ih => intro hi; have := ih (by omega); have := h.mono i (i + 1) (by omega) hi; omega
  have hle : ∀ d i, i < n → n - i = d → pc i ≤ i := by
    intro d
    induction d with
    | zero => intro i hi hd; omega
    | succ d ih =>
      intro i hi hd
      by_cases e : i + 1 < n
      · have := ih (i + 1) e (by omega); have := h.mono i (i + 1) (by omega) e; omega
      · have := h.lt i hi; omega
  intro i hi j hj
  have e : pc j = j := by have := hge j hj; have := hle (n - j) j hj rfl; omega
  have := h.one j hj i hi
  rwa [e] at this
/-- One has none: there is a kernel. -/
theorem Red.ker {n r : Nat} {pc : Nat → Nat} {M A : Nat → Nat → Nat} (h : Red n n r pc A) (hr : r < n) (hM : B8 M) (ha : Aug n M A) : ¬ Inj n M := by
  intro hi
  obtain ⟨x, hx, ⟨p, hp, hxp⟩, h0⟩ := under (n - 1) n (fun l j => A j l) (fun l j => ha.b j l) (by omega)
  have hAx : ∀ i, i < n → mv n A x i = 0 := fun i hi' => by
    by_cases e : i < n - 1
    · have := h0 i e
      rw [← this]
      exact xs_congr (fun l _ => mul_comm _ _)
    · exact xs_zero (fun l hl => by rw [h.zero i (by omega) hi' l hl]; exact zero_mul _)
  have hMx : ∀ i, i < n → mv n M x i = 0 := by
    refine ha.inj (mv n M x) (mv_V8 n M x) (fun i hi' => ?_)
    rw [← mv_mm (half_B8 ha.b n) hM hx, ← hAx i hi']
    exact xs_congr (fun l hl => by rw [ha.tie i hi' l hl])
  exact hxp (hi x hx hMx p hp)
end Gf
end Go.Proofs.Ytmhhegkpkncebaa
