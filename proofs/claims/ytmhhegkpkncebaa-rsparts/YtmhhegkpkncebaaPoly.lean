/-
  POLYNOMIALS OVER THE FIELD OF 256 AND THEIR ROOTS, no program in sight; by them: whichever k rows of the identity with a Cauchy matrix under it bring only nought to nought.
-/
import Derived.Test.YtmhhegkpkncebaaGauss
namespace Go.Proofs.Ytmhhegkpkncebaa
namespace Gf

def ev : List Nat → Nat → Nat
  | [], _ => 0
  | c :: cs, z => c ^^^ mul z (ev cs z)
def L8 (cs : List Nat) : Prop := ∀ c ∈ cs, c < 256
theorem ev_lt {cs : List Nat} (h : L8 cs) (z : Nat) : ev cs z < 256 := by
  cases cs with
  | nil => show 0 < 256; decide
  | cons c cs => exact xor_lt (h c (by simp)) (mul_lt _ _)
theorem L8.tail {c : Nat} {cs : List Nat} (h : L8 (c :: cs)) : L8 cs := fun d hd => h d (by simp [hd])
/-- Division by z - a. -/
theorem ev_div {a : Nat} (ha : a < 256) : ∀ {cs : List Nat}, L8 cs → ∃ qs, L8 qs ∧ qs.length = cs.length - 1 ∧ ∀ z, z < 256 → ev cs z ^^^ ev cs a = mul (z ^^^ a) (ev qs z)
  | [], _ => ⟨[], fun _ h => by simp at h, rfl, fun z _ => by show 0 ^^^ 0 = mul _ 0; rw [mul_zero]; rfl⟩
  | [c], _ => ⟨[], fun _ h => by simp at h, rfl, fun z _ => by
      show (c ^^^ mul z 0) ^^^ (c ^^^ mul a 0) = mul _ 0
      rw [mul_zero, mul_zero, mul_zero, Nat.xor_self]⟩
  | c :: d :: cs, h => by
    obtain ⟨qs, hq, hl, he⟩ := ev_div ha (cs := d :: cs) h.tail
    have hE : ev (d :: cs) a < 256 := ev_lt h.tail a
    refine ⟨ev (d :: cs) a :: qs, fun x hx => ?_, by simp at hl ⊢; omega, fun z hz => ?_⟩
    · rcases List.mem_cons.1 hx with e | e
      · rw [e]; exact hE
      · exact hq x e
    · have hZ : ev (d :: cs) z < 256 := ev_lt h.tail z
      have hQ : ev qs z < 256 := ev_lt hq z
      have e1 := he z hz
      show (c ^^^ mul z (ev (d :: cs) z)) ^^^ (c ^^^ mul a (ev (d :: cs) a)) = mul (z ^^^ a) (ev (d :: cs) a ^^^ mul z (ev qs z))
      rw [xor_four, Nat.xor_self, Nat.zero_xor]
      rw [mul_xor (xor_lt hz ha) hE (mul_lt _ _)]
      have e2 : mul (z ^^^ a) (mul z (ev qs z)) = mul z (ev (d :: cs) z ^^^ ev (d :: cs) a) := by
        rw [e1, ← mul_assoc (xor_lt hz ha) hz hQ, mul_comm (z ^^^ a) z, mul_assoc hz (xor_lt hz ha) hQ]
      rw [e2, mul_xor hz hZ hE, xor_mul hE hz ha]
      rw [Nat.xor_comm (mul z (ev (d :: cs) z)) (mul z (ev (d :: cs) a)), xor_four, Nat.xor_self, Nat.zero_xor, Nat.xor_comm]
theorem xor_ne {a b : Nat} (h : a ≠ b) : a ^^^ b ≠ 0 := fun e => h (xor_zero_eq e)
/-- As many roots as that: it is nought everywhere. -/
theorem ev_roots (r : Nat → Nat) : ∀ (d : Nat) (cs : List Nat), L8 cs → cs.length ≤ d → (∀ i, i < d → r i < 256) → (∀ i j, i < d → j < d → r i = r j → i = j) → (∀ i, i < d → ev cs (r i) = 0) → ∀ z, z < 256 → ev cs z = 0
  | 0, cs, _, hl, _, _, _, z, _ => by
    have : cs = [] := List.eq_nil_of_length_eq_zero (by omega)
    rw [this]; rfl
  | d + 1, cs, hc, hl, hr, hi, h0, z, hz => by
    obtain ⟨qs, hq, hql, he⟩ := ev_div (hr d (by omega)) hc
    have hd0 : ev cs (r d) = 0 := h0 d (by omega)
    have hq0 : ∀ z, z < 256 → ev qs z = 0 := by
      refine ev_roots r d qs hq (by omega) (fun i hid => hr i (by omega)) (fun i j h1 h2 => hi i j (by omega) (by omega)) (fun i hid => ?_)
      have h1 := he (r i) (hr i (by omega))
      rw [h0 i (by omega), hd0, Nat.xor_self] at h1
      rcases (mul_eq_zero _ _).1 h1.symm with h2 | h2
      · exact absurd h2 (xor_ne (fun e => by have := hi i d (by omega) (by omega) e; omega))
      · exact h2
    have h1 := he z hz
    rw [hd0, Nat.xor_zero, hq0 z hz, mul_zero] at h1
    exact h1

/-- f is a polynomial of fewer than d + 1 terms. -/
def PolyD (d : Nat) (f : Nat → Nat) : Prop := ∃ cs, L8 cs ∧ cs.length ≤ d ∧ ∀ z, z < 256 → f z = ev cs z
def addL : List Nat → List Nat → List Nat
  | [], ys => ys
  | x :: xs', [] => x :: xs'
  | x :: xs', y :: ys => (x ^^^ y) :: addL xs' ys
theorem addL_L8 : ∀ {a b : List Nat}, L8 a → L8 b → L8 (addL a b)
  | [], _, _, hb => hb
  | _ :: _, [], ha, _ => ha
  | x :: a, y :: b, ha, hb => fun c hc => by
    rcases List.mem_cons.1 hc with e | e
    · rw [e]; exact xor_lt (ha x (by simp)) (hb y (by simp))
    · exact addL_L8 ha.tail hb.tail c e
theorem addL_len : ∀ (a b : List Nat) (d : Nat), a.length ≤ d → b.length ≤ d → (addL a b).length ≤ d
  | [], _, _, _, hb => hb
  | _ :: _, [], _, ha, _ => ha
  | x :: a, y :: b, d, ha, hb => by
    show (addL a b).length + 1 ≤ d
    have := addL_len a b (d - 1) (by simp at ha; omega) (by simp at hb; omega)
    simp at ha; omega
theorem ev_addL {z : Nat} (hz : z < 256) : ∀ {a b : List Nat}, L8 a → L8 b → ev (addL a b) z = ev a z ^^^ ev b z
  | [], _, _, _ => by show _ = 0 ^^^ _; rw [Nat.zero_xor]; rfl
  | _ :: _, [], _, _ => by show _ = _ ^^^ 0; rw [Nat.xor_zero]; rfl
  | x :: a, y :: b, ha, hb => by
    show (x ^^^ y) ^^^ mul z (ev (addL a b) z) = (x ^^^ mul z (ev a z)) ^^^ (y ^^^ mul z (ev b z))
    rw [ev_addL hz ha.tail hb.tail, mul_xor hz (ev_lt ha.tail z) (ev_lt hb.tail z), xor_four]
theorem ev_map {z c : Nat} (hz : z < 256) (hc : c < 256) : ∀ {a : List Nat}, L8 a → ev (a.map (mul c)) z = mul c (ev a z)
  | [], _ => (mul_zero c).symm
  | x :: a, h => by
    show mul c x ^^^ mul z (ev (a.map (mul c)) z) = mul c (x ^^^ mul z (ev a z))
    rw [ev_map hz hc h.tail, mul_xor hc (h x (by simp)) (mul_lt _ _), ← mul_assoc hz hc (ev_lt h.tail z), ← mul_assoc hc hz (ev_lt h.tail z), mul_comm z c]
theorem map_L8 (c : Nat) (a : List Nat) : L8 (a.map (mul c)) := fun x hx => by
  obtain ⟨y, _, rfl⟩ := List.mem_map.1 hx; exact mul_lt _ _
theorem PolyD.add {d : Nat} {f g : Nat → Nat} (hf : PolyD d f) (hg : PolyD d g) : PolyD d (fun z => f z ^^^ g z) := by
  obtain ⟨a, ha, la, ea⟩ := hf
  obtain ⟨b, hb, lb, eb⟩ := hg
  exact ⟨addL a b, addL_L8 ha hb, addL_len a b d la lb, fun z hz => by show f z ^^^ g z = _; rw [ev_addL hz ha hb, ea z hz, eb z hz]⟩
theorem PolyD.smul {d c : Nat} {f : Nat → Nat} (hc : c < 256) (hf : PolyD d f) : PolyD d (fun z => mul c (f z)) := by
  obtain ⟨a, ha, la, ea⟩ := hf
  exact ⟨a.map (mul c), map_L8 c a, by simpa using la, fun z hz => by show mul c (f z) = _; rw [ev_map hz hc ha, ea z hz]⟩
theorem PolyD.mono {d e : Nat} {f : Nat → Nat} (h : PolyD d f) (hde : d ≤ e) : PolyD e f := by
  obtain ⟨a, ha, la, ea⟩ := h; exact ⟨a, ha, by omega, ea⟩
theorem PolyD.lin {d l : Nat} {f : Nat → Nat} (hl : l < 256) (hf : PolyD d f) : PolyD (d + 1) (fun z => mul (f z) (z ^^^ l)) := by
  obtain ⟨a, ha, la, ea⟩ := hf
  have h1 : PolyD (d + 1) (fun z => mul z (f z)) := ⟨0 :: a, fun c hc => by
    rcases List.mem_cons.1 hc with e | e
    · rw [e]; decide
    · exact ha c e, by simp; omega, fun z hz => by show mul z (f z) = 0 ^^^ mul z (ev a z); rw [Nat.zero_xor, ea z hz]⟩
  have h2 : PolyD (d + 1) (fun z => mul l (f z)) := (PolyD.smul hl ⟨a, ha, la, ea⟩).mono (by omega)
  obtain ⟨b, hb, lb, eb⟩ := h1.add h2
  refine ⟨b, hb, lb, fun z hz => ?_⟩
  rw [← eb z hz]
  show mul (f z) (z ^^^ l) = mul z (f z) ^^^ mul l (f z)
  rw [mul_xor (by rw [ea z hz]; exact ev_lt ha z) hz hl, mul_comm (f z) z, mul_comm (f z) l]
theorem PolyD.one : PolyD 1 (fun _ => 1) := ⟨[1], fun c hc => by simp at hc; rw [hc]; decide, by simp, fun z _ => by show 1 = 1 ^^^ mul z 0; rw [mul_zero]; rfl⟩
theorem PolyD.xs {d : Nat} {F : Nat → Nat → Nat} (k : Nat) (h : ∀ j, j < k → PolyD d (fun z => F j z)) : PolyD d (fun z => xs (fun j => F j z) k) := by
  induction k with
  | zero => exact ⟨[], fun _ h => by simp at h, by simp, fun _ _ => rfl⟩
  | succ k ih => exact (ih (fun j hj => h j (by omega))).add (h k (by omega))

/-- The product of all z - l for l < k but l = j. -/
def pr (j z : Nat) : Nat → Nat
  | 0 => 1
  | k + 1 => if k = j then pr j z k else mul (pr j z k) (z ^^^ k)
theorem pr_lt (j z k : Nat) : pr j z k < 256 := by
  induction k with
  | zero => show 1 < 256; decide
  | succ k ih => unfold pr; split
                 · exact ih
                 · exact mul_lt _ _
theorem pr_poly (j : Nat) : ∀ k, k ≤ 256 → PolyD (k + 1) (fun z => pr j z k) ∧ (j < k → PolyD k (fun z => pr j z k))
  | 0, _ => ⟨PolyD.one, fun h => by omega⟩
  | k + 1, hk => by
    obtain ⟨h1, h2⟩ := pr_poly j k (by omega)
    by_cases e : k = j
    · have h3 : PolyD (k + 1) (fun z => pr j z (k + 1)) := by
        obtain ⟨cs, a, b, c⟩ := h1
        exact ⟨cs, a, b, fun z hz => by rw [← c z hz]; show (if k = j then pr j z k else _) = _; rw [if_pos e]⟩
      exact ⟨h3.mono (by omega), fun _ => h3⟩
    · have h3 : PolyD (k + 1 + 1) (fun z => pr j z (k + 1)) := by
        obtain ⟨cs, a, b, c⟩ := h1.lin (show k < 256 by omega)
        exact ⟨cs, a, b, fun z hz => by rw [← c z hz]; show (if k = j then _ else mul (pr j z k) (z ^^^ k)) = _; rw [if_neg e]⟩
      refine ⟨h3, fun hj => ?_⟩
      obtain ⟨cs, a, b, c⟩ := (h2 (by omega)).lin (show k < 256 by omega)
      exact ⟨cs, a, b, fun z hz => by rw [← c z hz]; show (if k = j then _ else mul (pr j z k) (z ^^^ k)) = _; rw [if_neg e]⟩
theorem pr_zero {j z : Nat} : ∀ {k : Nat}, z < k → z ≠ j → pr j z k = 0
  | 0, h, _ => by omega
  | k + 1, h, hne => by
    show (if k = j then pr j z k else mul (pr j z k) (z ^^^ k)) = 0
    by_cases e : z = k
    · rw [if_neg (by omega), e, Nat.xor_self, mul_zero]
    · have := pr_zero (j := j) (z := z) (k := k) (by omega) hne
      split
      · exact this
      · rw [this, zero_mul]
theorem pr_ne {j z : Nat} : ∀ {k : Nat}, (∀ l, l < k → l ≠ j → z ≠ l) → pr j z k ≠ 0
  | 0, _ => by show 1 ≠ 0; decide
  | k + 1, h => by
    show (if k = j then pr j z k else mul (pr j z k) (z ^^^ k)) ≠ 0
    have ih := pr_ne (j := j) (z := z) (k := k) (fun l hl => h l (by omega))
    split
    · exact ih
    · rename_i e; exact mul_ne _ _ ih (xor_ne (h k (by omega) e))
/-- The product of all. -/
def pra (z : Nat) : Nat → Nat
  | 0 => 1
  | k + 1 => mul (pra z k) (z ^^^ k)
theorem pra_lt (z k : Nat) : pra z k < 256 := by
  cases k with
  | zero => show 1 < 256; decide
  | succ k => exact mul_lt _ _
theorem pr_high {j z : Nat} : ∀ {k : Nat}, k ≤ j → pr j z k = pra z k
  | 0, _ => rfl
  | k + 1, h => by
    show (if k = j then _ else mul (pr j z k) (z ^^^ k)) = mul (pra z k) (z ^^^ k)
    rw [if_neg (by omega), pr_high (by omega)]
theorem pr_pra {j z : Nat} (hz : z < 256) : ∀ {k : Nat}, k ≤ 256 → j < k → mul (pr j z k) (z ^^^ j) = pra z k
  | 0, _, h => by omega
  | k + 1, hk, h => by
    show mul (if k = j then pr j z k else mul (pr j z k) (z ^^^ k)) (z ^^^ j) = mul (pra z k) (z ^^^ k)
    have hx : z ^^^ j < 256 := xor_lt hz (by omega)
    have hy : z ^^^ k < 256 := xor_lt hz (by omega)
    by_cases e : k = j
    · rw [if_pos e, pr_high (by omega), e]
    · rw [if_neg e, mul_assoc (pr_lt j z k) hy hx, mul_comm (z ^^^ k), ← mul_assoc (pr_lt j z k) hx hy, pr_pra hz (by omega) (by omega)]

/-- Row number r of the identity with the Cauchy matrix under it. -/
def cau (k r j : Nat) : Nat := if r < k then idm r j else inv (r ^^^ j)
theorem cau_lt (k r j : Nat) : cau k r j < 256 := by
  unfold cau; split
  · exact idm_B8 _ _
  · exact inv_lt _
/-- THE CODE's HEART: whichever k rows, in whichever order. -/
theorem cauchy_inj {k : Nat} (hk : k ≤ 256) (r : Nat → Nat) (hr : ∀ i, i < k → r i < 256) (hd : ∀ i j, i < k → j < k → r i = r j → i = j) : Inj k (fun i j => cau k (r i) j) := by
  intro x hx h0 s hs
  have hF : PolyD k (fun z => xs (fun j => mul (x j) (pr j z k)) k) := PolyD.xs k (fun j hj => ((pr_poly j k hk).2 hj).smul (hx j))
  obtain ⟨cs, hc, hl, he⟩ := hF
  have hroot : ∀ i, i < k → ev cs (r i) = 0 := by
    intro i hi
    rw [← he (r i) (hr i hi)]
    have h1 := h0 i hi
    show xs (fun j => mul (x j) (pr j (r i) k)) k = 0
    by_cases hrk : r i < k
    · have hx0 : x (r i) = 0 := by
        rw [← h1]
        show _ = xs (fun l => mul (cau k (r i) l) (x l)) k
        rw [xs_single hrk (fun l _ hne => by unfold cau idm; rw [if_pos hrk, if_neg (fun e => hne e.symm)]; exact zero_mul _)]
        unfold cau idm; rw [if_pos hrk, if_pos rfl, mul_comm, mul_one (hx _)]
      refine xs_zero (fun j hj => ?_)
      by_cases e : r i = j
      · rw [← e, hx0, zero_mul]
      · rw [pr_zero hrk e, mul_zero]
    · have hpr : ∀ j, j < k → pr j (r i) k = mul (pra (r i) k) (inv (r i ^^^ j)) := fun j hj => by
        have hne : r i ^^^ j ≠ 0 := xor_ne (by omega)
        have hlt : r i ^^^ j < 256 := xor_lt (hr i hi) (by omega)
        rw [← pr_pra (hr i hi) hk hj, mul_assoc (pr_lt _ _ _) hlt (inv_lt _), mul_inv hlt hne, mul_one (pr_lt _ _ _)]
      have e1 : xs (fun j => mul (x j) (pr j (r i) k)) k = xs (fun j => mul (pra (r i) k) (mul (cau k (r i) j) (x j))) k := xs_congr (fun j hj => by
        rw [hpr j hj]; unfold cau; rw [if_neg hrk]
        rw [← mul_assoc (hx j) (pra_lt _ _) (inv_lt _), mul_comm (x j), mul_assoc (pra_lt _ _) (hx j) (inv_lt _), mul_comm (x j)])
      rw [e1, ← mul_xs (pra_lt _ _) (fun j => mul_lt _ _)]
      have : xs (fun j => mul (cau k (r i) j) (x j)) k = 0 := h1
      rw [this, mul_zero]
  have hz := ev_roots r k cs hc hl hr hd hroot s (by omega)
  rw [← he s (by omega)] at hz
  have hz' : xs (fun j => mul (x j) (pr j s k)) k = 0 := hz
  rw [xs_single hs (fun j _ hne => by rw [pr_zero hs (fun e => hne e.symm), mul_zero])] at hz'
  rcases (mul_eq_zero _ _).1 hz' with h | h
  · exact h
  · exact absurd h (pr_ne (fun l _ hne => fun e => hne e.symm))
end Gf
end Go.Proofs.Ytmhhegkpkncebaa
