/-
  NUMBERS AS BYTES, plain mathematics: folding, pieces of seven bits, and what a row of bytes is taken as.
-/
import Derived.Test.YtcdkpflhpeflcaaProg
namespace Go.Proofs.Ytcdkpflhpeflcaa

/-- The sign lowest. -/
def fold (n : Int) : Nat := if n < 0 then (-n - 1).toNat * 2 + 1 else n.toNat * 2
/-- The number that a code was made of. -/
def unf (u : Nat) : Int := if u % 2 = 1 then -((u / 2 : Nat) : Int) - 1 else ((u / 2 : Nat) : Int)
theorem unf_fold (n : Int) : unf (fold n) = n := by unfold unf fold; split <;> split <;> omega
theorem fold_unf (u : Nat) : fold (unf u) = u := by unfold unf fold; split <;> split <;> omega
theorem fold_lt {n : Int} (h1 : -9223372036854775808 ≤ n) (h2 : n ≤ 9223372036854775807) : fold n < 18446744073709551616 := by unfold fold; split <;> omega
theorem fold_inj {m n : Int} (h : fold m = fold n) : m = n := by rw [← unf_fold m, h, unf_fold]
theorem fold_nat (n : Nat) : fold (n : Int) = n * 2 := by unfold fold; split <;> omega
theorem unf_lo {u : Nat} (h : u < 18446744073709551616) : -9223372036854775808 ≤ unf u ∧ unf u ≤ 9223372036854775807 := by unfold unf; split <;> omega
theorem unf_zero : unf 0 = 0 := rfl

/-- A code's bytes. -/
def enc (u : Nat) : List Nat := if u < 128 then [u] else (u % 128 + 128) :: enc (u / 128)
termination_by u
decreasing_by omega
theorem enc_lo {u : Nat} (h : u < 128) : enc u = [u] := by rw [enc, if_pos h]
theorem enc_hi {u : Nat} (h : ¬ u < 128) : enc u = (u % 128 + 128) :: enc (u / 128) := by rw [enc, if_neg h]
theorem enc_ne (u : Nat) : 0 < (enc u).length := by
  by_cases h : u < 128
  · rw [enc_lo h]; simp
  · rw [enc_hi h]; simp
theorem enc_lt : ∀ (u : Nat), ∀ x ∈ enc u, x < 256 := by
  intro u
  induction u using Nat.strongRecOn with
  | ind u ih =>
    intro x hx
    by_cases h : u < 128
    · rw [enc_lo h] at hx; simp at hx; omega
    · rw [enc_hi h] at hx
      rcases List.mem_cons.1 hx with h1 | h1
      · omega
      · exact ih (u / 128) (by omega) x h1
theorem enc_len : ∀ (k u : Nat), u < 128 ^ (k + 1) → (enc u).length ≤ k + 1 := by
  intro k
  induction k with
  | zero => intro u h; rw [enc_lo (by simpa using h)]; simp
  | succ k ih =>
    intro u h
    by_cases h0 : u < 128
    · rw [enc_lo h0]; simp
    · rw [enc_hi h0]
      have := ih (u / 128) (by rw [Nat.div_lt_iff_lt_mul (by decide)]; rw [Nat.pow_succ] at h; exact h)
      simp only [List.length_cons]; omega
theorem enc_len10 {u : Nat} (h : u < 18446744073709551616) : (enc u).length ≤ 10 := enc_len 9 u (by omega)
theorem enc_inj : ∀ (u v : Nat), enc u = enc v → u = v := by
  intro u
  induction u using Nat.strongRecOn with
  | ind u ih =>
    intro v h
    by_cases hu : u < 128
    · by_cases hv : v < 128
      · rw [enc_lo hu, enc_lo hv] at h; simpa using h
      · rw [enc_lo hu, enc_hi hv] at h
        injection h with h1 h2
        have := enc_ne (v / 128); rw [← h2] at this; simp at this
    · by_cases hv : v < 128
      · rw [enc_hi hu, enc_lo hv] at h
        injection h with h1 h2
        have := enc_ne (u / 128); rw [h2] at this; simp at this
      · rw [enc_hi hu, enc_hi hv] at h
        injection h with h1 h2
        have := ih (u / 128) (by omega) (v / 128) h2
        omega

/-- A byte that can't stand there. -/
def badB (i c : Nat) : Bool := decide ((0 < i ∧ c = 0) ∨ (i = 9 ∧ 1 < c))
/-- What r bytes, from place i on, are taken as, behind what came: the code, how many bytes, the error. -/
def scan (f : Nat → Nat) : Nat → Nat → Nat → Nat × Nat × Nat
  | 0, _, _ => (0, 0, 3)
  | r + 1, i, acc => if badB i (f i) = true then (0, 0, 4) else if f i < 128 then (acc + f i * 2 ^ (7 * i), i + 1, 0) else scan f r (i + 1) (acc + (f i - 128) * 2 ^ (7 * i))
theorem scan_0 (f : Nat → Nat) (i acc : Nat) : scan f 0 i acc = (0, 0, 3) := rfl
theorem scan_bad {f : Nat → Nat} {r i acc : Nat} (h : badB i (f i) = true) : scan f (r + 1) i acc = (0, 0, 4) := by unfold scan; rw [if_pos h]
theorem scan_end {f : Nat → Nat} {r i acc : Nat} (h : badB i (f i) = false) (h2 : f i < 128) : scan f (r + 1) i acc = (acc + f i * 2 ^ (7 * i), i + 1, 0) := by unfold scan; rw [if_neg (by simp [h]), if_pos h2]
theorem scan_on {f : Nat → Nat} {r i acc : Nat} (h : badB i (f i) = false) (h2 : ¬ f i < 128) : scan f (r + 1) i acc = scan f r (i + 1) (acc + (f i - 128) * 2 ^ (7 * i)) := by
  conv => lhs; unfold scan
  rw [if_neg (by simp [h]), if_neg h2]
theorem badB_9 {i c : Nat} (h : badB i c = false) (hi : i = 9) : c = 1 := by
  simp [badB] at h; omega
theorem badB_pos {i c : Nat} (h : badB i c = false) (hi : 0 < i) : 0 < c := by
  simp [badB] at h; omega

/-- What it answers: an error of three, or a code. -/
theorem scan_kind (f : Nat → Nat) : ∀ (r i acc : Nat), (∃ e, scan f r i acc = (0, 0, e) ∧ (e = 3 ∨ e = 4)) ∨ ∃ c s, scan f r i acc = (c, s, 0) ∧ i < s ∧ s ≤ i + r := by
  intro r
  induction r with
  | zero => intro i acc; exact .inl ⟨3, rfl, .inl rfl⟩
  | succ r ih =>
    intro i acc
    by_cases hb : badB i (f i) = true
    · exact .inl ⟨4, scan_bad hb, .inr rfl⟩
    · have hb : badB i (f i) = false := by simpa using hb
      by_cases h : f i < 128
      · exact .inr ⟨_, _, scan_end hb h, by omega, by omega⟩
      · rw [scan_on hb h]
        rcases ih (i + 1) (acc + (f i - 128) * 2 ^ (7 * i)) with h1 | ⟨c, s, h1, h2, h3⟩
        · exact .inl h1
        · exact .inr ⟨c, s, h1, by omega, by omega⟩
/-- What is taken as a code has just the code's bytes. -/
theorem scan_enc (f : Nat → Nat) (hf : ∀ i, f i < 256) : ∀ (r i acc c s : Nat), scan f r i acc = (c, s, 0) → ∃ t, c = acc + t * 2 ^ (7 * i) ∧ enc t = (List.range (s - i)).map (fun j => f (i + j)) ∧ (0 < i → 0 < t) := by
  intro r
  induction r with
  | zero => intro i acc c s h; rw [scan_0] at h; injection h with _ h; injection h with _ h; cases h
  | succ r ih =>
    intro i acc c s h
    by_cases hb : badB i (f i) = true
    · rw [scan_bad hb] at h; injection h with _ h; injection h with _ h; cases h
    · have hb : badB i (f i) = false := by simpa using hb
      by_cases h2 : f i < 128
      · rw [scan_end hb h2] at h
        injection h with h3 h4; injection h4 with h4 _
        subst h3 h4
        refine ⟨f i, rfl, ?_, fun h => badB_pos hb h⟩
        rw [enc_lo h2, show i + 1 - i = 1 by omega]; rfl
      · have hk := scan_kind f r (i + 1) (acc + (f i - 128) * 2 ^ (7 * i))
        rw [scan_on hb h2] at h
        rw [h] at hk
        have hs : i + 1 < s := by
          rcases hk with ⟨e, h5, h6⟩ | ⟨c', s', h5, h6, _⟩
          · injection h5 with _ h5; injection h5 with _ h5; omega
          · injection h5 with _ h5; injection h5 with h5 _; omega
        obtain ⟨t, h3, h4, h5⟩ := ih _ _ _ _ h
        have ht := h5 (by omega)
        refine ⟨(f i - 128) + 128 * t, ?_, ?_, fun _ => by omega⟩
        · rw [h3, show 7 * (i + 1) = 7 * i + 7 by omega, Nat.pow_add, Nat.add_mul]
          have : t * (2 ^ (7 * i) * 2 ^ 7) = 128 * t * 2 ^ (7 * i) := by
            rw [show (2 : Nat) ^ 7 = 128 by decide, Nat.mul_comm (2 ^ (7 * i)) 128, ← Nat.mul_assoc, Nat.mul_comm t 128]
          omega
        · have h8 := hf i
          rw [enc_hi (by omega), show (f i - 128 + 128 * t) % 128 + 128 = f i by omega, show (f i - 128 + 128 * t) / 128 = t by omega, h4, show s - i = (s - (i + 1)) + 1 by omega, List.range_succ_eq_map, List.map_cons, List.map_map]
          congr 1
          apply List.map_congr_left
          intro j _
          show f (i + 1 + j) = f (i + (j + 1))
          congr 1; omega
/-- The code fits. -/
theorem scan_lt (f : Nat → Nat) (hf : ∀ i, f i < 256) : ∀ (r i acc c s : Nat), i ≤ 9 → acc < 2 ^ (7 * i) → scan f r i acc = (c, s, 0) → c < 18446744073709551616 ∧ s ≤ 10 := by
  intro r
  induction r with
  | zero => intro i acc c s _ _ h; rw [scan_0] at h; injection h with _ h; injection h with _ h; cases h
  | succ r ih =>
    intro i acc c s hi ha h
    by_cases hb : badB i (f i) = true
    · rw [scan_bad hb] at h; injection h with _ h; injection h with _ h; cases h
    · have hb : badB i (f i) = false := by simpa using hb
      have h8 := hf i
      by_cases h2 : f i < 128
      · rw [scan_end hb h2] at h
        injection h with h3 h4; injection h4 with h4 _
        subst h3 h4
        refine ⟨?_, by omega⟩
        by_cases h9 : i = 9
        · have := badB_9 hb h9
          subst h9
          rw [this]
          simp at ha ⊢; omega
        · have e : 2 ^ (7 * i) ≤ 2 ^ 56 := Nat.pow_le_pow_right (by decide) (by omega)
          have e2 : f i * 2 ^ (7 * i) ≤ 127 * 2 ^ 56 := Nat.mul_le_mul (by omega) e
          have e3 : (2 : Nat) ^ 56 = 72057594037927936 := by decide
          omega
      · rw [scan_on hb h2] at h
        have h9 : i ≠ 9 := fun e => by have := badB_9 hb e; omega
        refine ih (i + 1) _ c s (by omega) ?_ h
        have e : (f i - 128) * 2 ^ (7 * i) ≤ 127 * 2 ^ (7 * i) := Nat.mul_le_mul_right _ (by omega)
        rw [show 7 * (i + 1) = 7 * i + 7 by omega, Nat.pow_add]
        omega
theorem enc_at0 {t : Nat} (h : ¬ t < 128) : (enc t).getD 0 0 = t % 128 + 128 := by rw [enc_hi h]; rfl
theorem enc_atS {t j : Nat} (h : ¬ t < 128) : (enc t).getD (j + 1) 0 = (enc (t / 128)).getD j 0 := by rw [enc_hi h]; rfl
/-- A code's own bytes are taken as it. -/
theorem scan_of (f : Nat → Nat) : ∀ (t r i acc : Nat), i ≤ 9 → t * 2 ^ (7 * i) < 18446744073709551616 → (0 < i → 0 < t) → (∀ j, j < (enc t).length → f (i + j) = (enc t).getD j 0) → (enc t).length ≤ r →
    scan f r i acc = (acc + t * 2 ^ (7 * i), i + (enc t).length, 0) := by
  intro t
  induction t using Nat.strongRecOn with
  | ind t ih =>
    intro r i acc hi ht hp hj hr
    have hn := enc_ne t
    obtain ⟨r, rfl⟩ : ∃ r', r = r' + 1 := ⟨r - 1, by omega⟩
    have h0 := hj 0 hn
    rw [Nat.add_zero] at h0
    by_cases h : t < 128
    · rw [enc_lo h] at h0 ⊢
      have h0 : f i = t := h0
      have hb : badB i (f i) = false := by
        rw [h0]
        simp only [badB, decide_eq_false_iff_not]
        rintro (⟨h1, h2⟩ | ⟨h1, h2⟩)
        · have := hp h1; omega
        · subst h1; simp at ht; omega
      rw [scan_end hb (by omega), h0]; rfl
    · rw [enc_at0 h] at h0
      have hi9 : i ≠ 9 := by intro e; subst e; simp at ht; omega
      have hb : badB i (f i) = false := by
        simp only [badB, decide_eq_false_iff_not]
        rintro (⟨h1, h2⟩ | ⟨h1, h2⟩) <;> omega
      have hl : (enc t).length = (enc (t / 128)).length + 1 := by rw [enc_hi h]; rfl
      rw [hl] at hr hj ⊢
      have e1 : t * 2 ^ (7 * i) = (t % 128) * 2 ^ (7 * i) + (t / 128) * 2 ^ (7 * (i + 1)) := by
        rw [show 7 * (i + 1) = 7 * i + 7 by omega, Nat.pow_add, Nat.mul_comm (2 ^ (7 * i)) (2 ^ 7), ← Nat.mul_assoc, ← Nat.add_mul]
        congr 1
        have : (2 : Nat) ^ 7 = 128 := by decide
        omega
      rw [scan_on hb (by omega), ih (t / 128) (by omega) r (i + 1) _ (by omega) (by omega) (fun _ => by omega) (fun j hj2 => by
        have := hj (j + 1) (by omega)
        rw [enc_atS h] at this
        rw [← this]; congr 1; omega) (by omega), e1, h0, show t % 128 + 128 - 128 = t % 128 by omega]
      rw [← Nat.add_assoc, ← Nat.add_assoc, Nat.add_right_comm i]
/-- Cut off they are too short. -/
theorem scan_cut (f : Nat → Nat) : ∀ (t r i acc : Nat), i ≤ 9 → t * 2 ^ (7 * i) < 18446744073709551616 → (0 < i → 0 < t) → (∀ j, j < r → f (i + j) = (enc t).getD j 0) → r < (enc t).length →
    scan f r i acc = (0, 0, 3) := by
  intro t
  induction t using Nat.strongRecOn with
  | ind t ih =>
    intro r i acc hi ht hp hj hr
    rcases r with _ | r
    · rfl
    have h0 := hj 0 (by omega)
    rw [Nat.add_zero] at h0
    by_cases h : t < 128
    · rw [enc_lo h] at hr; simp at hr
    · rw [enc_at0 h] at h0
      have hi9 : i ≠ 9 := by intro e; subst e; simp at ht; omega
      have hb : badB i (f i) = false := by
        simp only [badB, decide_eq_false_iff_not]
        rintro (⟨h1, h2⟩ | ⟨h1, h2⟩) <;> omega
      have hl : (enc t).length = (enc (t / 128)).length + 1 := by rw [enc_hi h]; rfl
      have e1 : t * 2 ^ (7 * i) = (t % 128) * 2 ^ (7 * i) + (t / 128) * 2 ^ (7 * (i + 1)) := by
        rw [show 7 * (i + 1) = 7 * i + 7 by omega, Nat.pow_add, Nat.mul_comm (2 ^ (7 * i)) (2 ^ 7), ← Nat.mul_assoc, ← Nat.add_mul]
        congr 1
        have : (2 : Nat) ^ 7 = 128 := by decide
        omega
      rw [scan_on hb (by omega)]
      exact ih (t / 128) (by omega) r (i + 1) _ (by omega) (by omega) (fun _ => by omega) (fun j hj2 => by
        have := hj (j + 1) (by omega)
        rw [enc_atS h] at this
        rw [← this]; congr 1; omega) (by omega)
end Go.Proofs.Ytcdkpflhpeflcaa
