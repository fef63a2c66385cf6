/-
  NUMBERS AS BYTES, plain mathematics: folding, pieces of seven bits, and what a row of bytes is taken as.
-/
import Derived.Test.YtfinaichajbnkaaGreatDoorProg
import Derived.Test.YtfinaichajbnkaaGreatDoorRows
import Derived.WalkKit
import Derived.WalkSpells
import Derived.WalkLawsBesides
import Derived.Deep.WholeRow
import Derived.Laws.CopyOwn
import Derived.Deep.QuietTactic
import Derived.BigQuiet
import Derived.OpenShut
import Derived.Laws.BytesArg
import Derived.Laws.BitsAllLaws
import Derived.Deep.Upon
namespace Go.Proofs.YtfinaichajbnkaaGreatDoor.Wi

/-- The sign lowest. -/
def fold (n : Int) : Nat := if n < 0 then (-n - 1).toNat * 2 + 1 else n.toNat * 2
/-- The number that a code was made of. -/
def unf (u : Nat) : Int := if u % 2 = 1 then -((u / 2 : Nat) : Int) - 1 else ((u / 2 : Nat) : Int)
theorem unf_fold (n : Int) : unf (fold n) = n := by unfold unf fold; split <;> split <;> omega
theorem fold_unf (u : Nat) : fold (unf u) = u := by unfold unf fold; split <;> split <;> omega
theorem fold_lt {n : Int} (h1 : -9223372036854775808 ≤ n) (h2 : n ≤ 9223372036854775807) : fold n < 18446744073709551616 := by unfold fold; split <;> omega
theorem fold_inj {m n : Int} (h : fold m = fold n) : m = n := by rw [← unf_fold m, h, unf_fold]
theorem fold_nat (n : Nat) : fold (n : Int) = n * 2 := by unfold fold; split <;> omega
theorem unf_lo {u : Nat} (h : u < 18446744073709551616) : -9223372036854775808 ≤ unf u ∧ unf u ≤ 9223372036854775807 := by unfold unf; split <;> omega
theorem unf_zero : unf 0 = 0 := rfl

/-- A code's bytes. -/
def enc (u : Nat) : List Nat := if u < 128 then [u] else (u % 128 + 128) :: enc (u / 128)
termination_by u
decreasing_by omega
theorem enc_lo {u : Nat} (h : u < 128) : enc u = [u] := by rw [enc, if_pos h]
theorem enc_hi {u : Nat} (h : ¬ u < 128) : enc u = (u % 128 + 128) :: enc (u / 128) := by rw [enc, if_neg h]
theorem enc_ne (u : Nat) : 0 < (enc u).length := by
  by_cases h : u < 128
  · rw [enc_lo h]; simp
  · rw [enc_hi h]; simp
theorem enc_lt : ∀ (u : Nat), ∀ x ∈ enc u, x < 256 := by
  intro u
  induction u using Nat.strongRecOn with
  | ind u ih =>
    intro x hx
    by_cases h : u < 128
    · rw [enc_lo h] at hx; simp at hx; omega
    · rw [enc_hi h] at hx
      rcases List.mem_cons.1 hx with h1 | h1
      · omega
      · exact ih (u / 128) (by omega) x h1
theorem enc_len : ∀ (k u : Nat), u < 128 ^ (k + 1) → (enc u).length ≤ k + 1 := by
  intro k
  induction k with
  | zero => intro u h; rw [enc_lo (by simpa using h)]; simp
  | succ k ih =>
    intro u h
    by_cases h0 : u < 128
    · rw [enc_lo h0]; simp
    · rw [enc_hi h0]
      have := ih (u / 128) (by rw [Nat.div_lt_iff_lt_mul (by decide)]; rw [Nat.pow_succ] at h; exact h)
      simp only [List.length_cons]; omega
theorem enc_len10 {u : Nat} (h : u < 18446744073709551616) : (enc u).length ≤ 10 := enc_len 9 u (by omega)
theorem enc_inj : ∀ (u v : Nat), enc u = enc v → u = v := by
  intro u
  induction u using Nat.strongRecOn with
  | ind u ih =>
    intro v h
    by_cases hu : u < 128
    · by_cases hv : v < 128
      · rw [enc_lo hu, enc_lo hv] at h; simpa using h
      · rw [enc_lo hu, enc_hi hv] at h
        injection h with h1 h2
        have := enc_ne (v / 128); rw [← h2] at this; simp at this
    · by_cases hv : v < 128
      · rw [enc_hi hu, enc_lo hv] at h
        injection h with h1 h2
        have := enc_ne (u / 128); rw [h2] at this; simp at this
      · rw [enc_hi hu, enc_hi hv] at h
        injection h with h1 h2
        have := ih (u / 128) (by omega) (v / 128) h2
        omega

/-- A byte that can't stand there. -/
def badB (i c : Nat) : Bool := decide ((0 < i ∧ c = 0) ∨ (i = 9 ∧ 1 < c))
/-- What r bytes, from place i on, are taken as, behind what came: the code, how many bytes, the error. -/
def scan (f : Nat → Nat) : Nat → Nat → Nat → Nat × Nat × Nat
  | 0, _, _ => (0, 0, 3)
  | r + 1, i, acc => if badB i (f i) = true then (0, 0, 4) else if f i < 128 then (acc + f i * 2 ^ (7 * i), i + 1, 0) else scan f r (i + 1) (acc + (f i - 128) * 2 ^ (7 * i))
theorem scan_0 (f : Nat → Nat) (i acc : Nat) : scan f 0 i acc = (0, 0, 3) := rfl
theorem scan_bad {f : Nat → Nat} {r i acc : Nat} (h : badB i (f i) = true) : scan f (r + 1) i acc = (0, 0, 4) := by unfold scan; rw [if_pos h]
theorem scan_end {f : Nat → Nat} {r i acc : Nat} (h : badB i (f i) = false) (h2 : f i < 128) : scan f (r + 1) i acc = (acc + f i * 2 ^ (7 * i), i + 1, 0) := by unfold scan; rw [if_neg (by simp [h]), if_pos h2]
theorem scan_on {f : Nat → Nat} {r i acc : Nat} (h : badB i (f i) = false) (h2 : ¬ f i < 128) : scan f (r + 1) i acc = scan f r (i + 1) (acc + (f i - 128) * 2 ^ (7 * i)) := by
  conv => lhs; unfold scan
  rw [if_neg (by simp [h]), if_neg h2]
theorem badB_9 {i c : Nat} (h : badB i c = false) (hi : i = 9) : c = 1 := by
  simp [badB] at h; omega
theorem badB_pos {i c : Nat} (h : badB i c = false) (hi : 0 < i) : 0 < c := by
  simp [badB] at h; omega

/-- What it answers: an error of three, or a code. -/
theorem scan_kind (f : Nat → Nat) : ∀ (r i acc : Nat), (∃ e, scan f r i acc = (0, 0, e) ∧ (e = 3 ∨ e = 4)) ∨ ∃ c s, scan f r i acc = (c, s, 0) ∧ i < s ∧ s ≤ i + r := by
  intro r
  induction r with
  | zero => intro i acc; exact .inl ⟨3, rfl, .inl rfl⟩
  | succ r ih =>
    intro i acc
    by_cases hb : badB i (f i) = true
    · exact .inl ⟨4, scan_bad hb, .inr rfl⟩
    · have hb : badB i (f i) = false := by simpa using hb
      by_cases h : f i < 128
      · exact .inr ⟨_, _, scan_end hb h, by omega, by omega⟩
      · rw [scan_on hb h]
        rcases ih (i + 1) (acc + (f i - 128) * 2 ^ (7 * i)) with h1 | ⟨c, s, h1, h2, h3⟩
        · exact .inl h1
        · exact .inr ⟨c, s, h1, by omega, by omega⟩
/-- What is taken as a code has just the code's bytes. -/
theorem scan_enc (f : Nat → Nat) (hf : ∀ i, f i < 256) : ∀ (r i acc c s : Nat), scan f r i acc = (c, s, 0) → ∃ t, c = acc + t * 2 ^ (7 * i) ∧ enc t = (List.range (s - i)).map (fun j => f (i + j)) ∧ (0 < i → 0 < t) := by
  intro r
  induction r with
  | zero => intro i acc c s h; rw [scan_0] at h; injection h with _ h; injection h with _ h; cases h
  | succ r ih =>
    intro i acc c s h
    by_cases hb : badB i (f i) = true
    · rw [scan_bad hb] at h; injection h with _ h; injection h with _ h; cases h
    · have hb : badB i (f i) = false := by simpa using hb
      by_cases h2 : f i < 128
      · rw [scan_end hb h2] at h
        injection h with h3 h4; injection h4 with h4 _
        subst h3 h4
        refine ⟨f i, rfl, ?_, fun h => badB_pos hb h⟩
        rw [enc_lo h2, show i + 1 - i = 1 by omega]; rfl
      · have hk := scan_kind f r (i + 1) (acc + (f i - 128) * 2 ^ (7 * i))
        rw [scan_on hb h2] at h
        rw [h] at hk
        have hs : i + 1 < s := by
          rcases hk with ⟨e, h5, h6⟩ | ⟨c', s', h5, h6, _⟩
          · injection h5 with _ h5; injection h5 with _ h5; omega
          · injection h5 with _ h5; injection h5 with h5 _; omega
        obtain ⟨t, h3, h4, h5⟩ := ih _ _ _ _ h
        have ht := h5 (by omega)
        refine ⟨(f i - 128) + 128 * t, ?_, ?_, fun _ => by omega⟩
        · rw [h3, show 7 * (i + 1) = 7 * i + 7 by omega, Nat.pow_add, Nat.add_mul]
          have : t * (2 ^ (7 * i) * 2 ^ 7) = 128 * t * 2 ^ (7 * i) := by
            rw [show (2 : Nat) ^ 7 = 128 by decide, Nat.mul_comm (2 ^ (7 * i)) 128, ← Nat.mul_assoc, Nat.mul_comm t 128]
          omega
        · have h8 := hf i
          rw [enc_hi (by omega), show (f i - 128 + 128 * t) % 128 + 128 = f i by omega, show (f i - 128 + 128 * t) / 128 = t by omega, h4, show s - i = (s - (i + 1)) + 1 by omega, List.range_succ_eq_map, List.map_cons, List.map_map]
          congr 1
          apply List.map_congr_left
          intro j _
          show f (i + 1 + j) = f (i + (j + 1))
          congr 1; omega
/-- The code fits. -/
theorem scan_lt (f : Nat → Nat) (hf : ∀ i, f i < 256) : ∀ (r i acc c s : Nat), i ≤ 9 → acc < 2 ^ (7 * i) → scan f r i acc = (c, s, 0) → c < 18446744073709551616 ∧ s ≤ 10 := by
  intro r
  induction r with
  | zero => intro i acc c s _ _ h; rw [scan_0] at h; injection h with _ h; injection h with _ h; cases h
  | succ r ih =>
    intro i acc c s hi ha h
    by_cases hb : badB i (f i) = true
    · rw [scan_bad hb] at h; injection h with _ h; injection h with _ h; cases h
    · have hb : badB i (f i) = false := by simpa using hb
      have h8 := hf i
      by_cases h2 : f i < 128
      · rw [scan_end hb h2] at h
        injection h with h3 h4; injection h4 with h4 _
        subst h3 h4
        refine ⟨?_, by omega⟩
        by_cases h9 : i = 9
        · have := badB_9 hb h9
          subst h9
          rw [this]
          simp at ha ⊢; omega
        · have e : 2 ^ (7 * i) ≤ 2 ^ 56 := Nat.pow_le_pow_right (by decide) (by omega)
          have e2 : f i * 2 ^ (7 * i) ≤ 127 * 2 ^ 56 := Nat.mul_le_mul (by omega) e
          have e3 : (2 : Nat) ^ 56 = 72057594037927936 := by decide
          omega
      · rw [scan_on hb h2] at h
        have h9 : i ≠ 9 := fun e => by have := badB_9 hb e; omega
        refine ih (i + 1) _ c s (by omega) ?_ h
        have e : (f i - 128) * 2 ^ (7 * i) ≤ 127 * 2 ^ (7 * i) := Nat.mul_le_mul_right _ (by omega)
        rw [show 7 * (i + 1) = 7 * i + 7 by omega, Nat.pow_add]
        omega
theorem enc_at0 {t : Nat} (h : ¬ t < 128) : (enc t).getD 0 0 = t % 128 + 128 := by rw [enc_hi h]; rfl
theorem enc_atS {t j : Nat} (h : ¬ t < 128) : (enc t).getD (j + 1) 0 = (enc (t / 128)).getD j 0 := by rw [enc_hi h]; rfl
/-- A code's own bytes are taken as it. -/
theorem scan_of (f : Nat → Nat) : ∀ (t r i acc : Nat), i ≤ 9 → t * 2 ^ (7 * i) < 18446744073709551616 → (0 < i → 0 < t) → (∀ j, j < (enc t).length → f (i + j) = (enc t).getD j 0) → (enc t).length ≤ r →
    scan f r i acc = (acc + t * 2 ^ (7 * i), i + (enc t).length, 0) := by
  intro t
  induction t using Nat.strongRecOn with
  | ind t ih =>
    intro r i acc hi ht hp hj hr
    have hn := enc_ne t
    obtain ⟨r, rfl⟩ : ∃ r', r = r' + 1 := ⟨r - 1, by omega⟩
    have h0 := hj 0 hn
    rw [Nat.add_zero] at h0
    by_cases h : t < 128
    · rw [enc_lo h] at h0 ⊢
      have h0 : f i = t := h0
      have hb : badB i (f i) = false := by
        rw [h0]
        simp only [badB, decide_eq_false_iff_not]
        rintro (⟨h1, h2⟩ | ⟨h1, h2⟩)
        · have := hp h1; omega
        · subst h1; simp at ht; omega
      rw [scan_end hb (by omega), h0]; rfl
    · rw [enc_at0 h] at h0
      have hi9 : i ≠ 9 := by intro e; subst e; simp at ht; omega
      have hb : badB i (f i) = false := by
        simp only [badB, decide_eq_false_iff_not]
        rintro (⟨h1, h2⟩ | ⟨h1, h2⟩) <;> omega
      have hl : (enc t).length = (enc (t / 128)).length + 1 := by rw [enc_hi h]; rfl
      rw [hl] at hr hj ⊢
      have e1 : t * 2 ^ (7 * i) = (t % 128) * 2 ^ (7 * i) + (t / 128) * 2 ^ (7 * (i + 1)) := by
        rw [show 7 * (i + 1) = 7 * i + 7 by omega, Nat.pow_add, Nat.mul_comm (2 ^ (7 * i)) (2 ^ 7), ← Nat.mul_assoc, ← Nat.add_mul]
        congr 1
        have : (2 : Nat) ^ 7 = 128 := by decide
        omega
      rw [scan_on hb (by omega), ih (t / 128) (by omega) r (i + 1) _ (by omega) (by omega) (fun _ => by omega) (fun j hj2 => by
        have := hj (j + 1) (by omega)
        rw [enc_atS h] at this
        rw [← this]; congr 1; omega) (by omega), e1, h0, show t % 128 + 128 - 128 = t % 128 by omega]
      rw [← Nat.add_assoc, ← Nat.add_assoc, Nat.add_right_comm i]
/-- Cut off they are too short. -/
theorem scan_cut (f : Nat → Nat) : ∀ (t r i acc : Nat), i ≤ 9 → t * 2 ^ (7 * i) < 18446744073709551616 → (0 < i → 0 < t) → (∀ j, j < r → f (i + j) = (enc t).getD j 0) → r < (enc t).length →
    scan f r i acc = (0, 0, 3) := by
  intro t
  induction t using Nat.strongRecOn with
  | ind t ih =>
    intro r i acc hi ht hp hj hr
    rcases r with _ | r
    · rfl
    have h0 := hj 0 (by omega)
    rw [Nat.add_zero] at h0
    by_cases h : t < 128
    · rw [enc_lo h] at hr; simp at hr
    · rw [enc_at0 h] at h0
      have hi9 : i ≠ 9 := by intro e; subst e; simp at ht; omega
      have hb : badB i (f i) = false := by
        simp only [badB, decide_eq_false_iff_not]
        rintro (⟨h1, h2⟩ | ⟨h1, h2⟩) <;> omega
      have hl : (enc t).length = (enc (t / 128)).length + 1 := by rw [enc_hi h]; rfl
      have e1 : t * 2 ^ (7 * i) = (t % 128) * 2 ^ (7 * i) + (t / 128) * 2 ^ (7 * (i + 1)) := by
        rw [show 7 * (i + 1) = 7 * i + 7 by omega, Nat.pow_add, Nat.mul_comm (2 ^ (7 * i)) (2 ^ 7), ← Nat.mul_assoc, ← Nat.add_mul]
        congr 1
        have : (2 : Nat) ^ 7 = 128 := by decide
        omega
      rw [scan_on hb (by omega)]
      exact ih (t / 128) (by omega) r (i + 1) _ (by omega) (by omega) (fun _ => by omega) (fun j hj2 => by
        have := hj (j + 1) (by omega)
        rw [enc_atS h] at this
        rw [← this]; congr 1; omega) (by omega)
end Go.Proofs.YtfinaichajbnkaaGreatDoor.Wi


namespace Go.Proofs.YtfinaichajbnkaaGreatDoor.Wi
open Go.RowKit

theorem ret_int {k : IntKind} {a b : Int} (h : a = b) : Ending.returned (.int k a) = .returned (.int k b) := by rw [h]
/-- A row of bytes that is read: it is empty, or its places hold f's numbers. -/
def RowF (w : World) (a : Option Addr) (f : Nat → Nat) (n : Nat) : Prop :=
  n = 0 ∨ ∃ p off, a = some ⟨p, off, none⟩ ∧ ∀ i, i < n → w.cell? ⟨p, off + i, none⟩ = some (.int .u8 ((f i : Nat) : Int))


/-- What the walk is told of a slice of bytes that came in: it is nil; or it leads to a row of 'cap' cells. -/
def IsRow (k : IntKind) (w : World) (a : Option Addr) (len cap : Nat) (zs : List Int) : Prop :=
  (a = none ∧ len = 0 ∧ cap = 0 ∧ zs = []) ∨
  ∃ x, a = some x ∧ len ≤ cap ∧ cap ≤ maxLen ∧ zs.length = cap ∧ (∀ i, i < zs.length → w.cell? (x.add i) = some (.int k (zs.getD i 0))) ∧ ∀ n ∈ zs, (Lit.int k n).wf = true

/-- The numbers of such a row. -/
def num (zs : List Int) (i : Nat) : Nat := (zs.getD i 0).toNat

theorem IsRow.len_le {w : World} {a : Option Addr} {len cap : Nat} {zs : List Int} (h : IsRow .u8 w a len cap zs) : len ≤ cap := by
  rcases h with ⟨_, rfl, rfl, _⟩ | ⟨x, _, h, _⟩
  · exact Nat.le_refl _
  · exact h
theorem IsRow.bd {w : World} {a : Option Addr} {len cap : Nat} {zs : List Int} (h : IsRow .u8 w a len cap zs) (i : Nat) : 0 ≤ zs.getD i 0 ∧ zs.getD i 0 ≤ 255 := by
  have key : ∀ n ∈ zs, 0 ≤ n ∧ n ≤ 255 := by
    rcases h with ⟨_, _, _, rfl⟩ | ⟨x, _, _, _, _, _, h⟩
    · intro n hn; simp at hn
    · intro n hn; exact bounds_u8 (h n hn)
  by_cases hi : i < zs.length
  · have := key (zs.getD i 0) (by rw [List.getD_eq_getElem?_getD, List.getElem?_eq_getElem hi]; exact List.getElem_mem hi)
    exact this
  · rw [List.getD_eq_getElem?_getD, List.getElem?_eq_none (by omega)]; decide
theorem IsRow.num_lt {w : World} {a : Option Addr} {len cap : Nat} {zs : List Int} (h : IsRow .u8 w a len cap zs) (i : Nat) : num zs i < 256 := by
  have := h.bd i; unfold num; omega
theorem IsRow.rowF {w : World} {a : Option Addr} {len cap : Nat} {zs : List Int} (h : IsRow .u8 w a len cap zs) (n : Nat) (hn : n ≤ cap) : RowF w a (num zs) n := by
  by_cases n0 : n = 0
  · exact Or.inl n0
  have hb := h.bd
  rcases h with ⟨_, _, rfl, _⟩ | ⟨x, rfl, hl, hm, hz, hcell, _⟩
  · exfalso; omega
  · obtain ⟨p, off, spot⟩ := x
    have hc := hcell 0 (by omega)
    have hspot : spot = none := by simpa [Addr.add] using World.cell?_spot hc
    subst hspot
    refine Or.inr ⟨p, off, rfl, fun i hi => ?_⟩
    have h1 := hcell i (by omega)
    have h2 := hb i
    have e : (⟨p, off, none⟩ : Addr).add i = ⟨p, off + i, none⟩ := by unfold Addr.add; split <;> simp_all
    rw [e] at h1
    rw [h1]; unfold num
    rw [Int.toNat_of_nonneg h2.1]

/-- The address of a part. -/
def sl (a : Option Addr) (l m : Nat) : Option Addr := if m = l then a else a.map (·.add (l * 1))
theorem RowF.cut {w : World} {a : Option Addr} {f : Nat → Nat} {n : Nat} (h : RowF w a f n) (l m : Nat) (hnm : n ≤ m) : RowF w (sl a l m) (fun i => f (l + i)) (n - l) := by
  by_cases hl : n ≤ l
  · exact Or.inl (by omega)
  · rcases h with h | ⟨p, off, rfl, hc⟩
    · exfalso; omega
    · refine Or.inr ⟨p, off + l, ?_, fun i hi => ?_⟩
      · unfold sl
        rw [if_neg (by omega)]
        show some _ = some _
        have e : (⟨p, off, none⟩ : Addr).add (l * 1) = ⟨p, off + l, none⟩ := by unfold Addr.add; split <;> simp_all
        exact congrArg some e
      · have := hc (l + i) (by omega)
        rw [Nat.add_assoc]; exact this
theorem RowF.head {w : World} {a : Option Addr} {f : Nat → Nat} {n : Nat} (h : RowF w a f n) (k m : Nat) (hk : k ≤ n) (hnm : n ≤ m) : RowF w (sl a 0 m) f k := by
  have h2 := h.cut 0 m hnm
  simp only [Nat.zero_add, Nat.sub_zero] at h2
  rcases h2 with h2 | ⟨p, off, e, hc⟩
  · exact Or.inl (by omega)
  · exact Or.inr ⟨p, off, e, fun i hi => hc i (by omega)⟩
theorem RowF.below {w w' : World} {a : Option Addr} {f : Nat → Nat} {n : Nat} (h : RowF w a f n) (hb : Below w.heap.size w w') : RowF w' a f n := by
  rcases h with h | ⟨p, off, e, hc⟩
  · exact Or.inl h
  · exact Or.inr ⟨p, off, e, fun i hi => by rw [hb.cell (World.block_lt_of_cell? _ _ (hc i hi))]; exact hc i hi⟩

theorem elem32 : Tryz.prog.underlying 95 = some (.slice (Tryz.prog.elem 95)) := by kernel_rfl
theorem elem32' : Tryz.prog.elem 95 = 5 := by kernel_rfl
theorem size5' (w : World) : (sizeOf 5).run Tryz.prog w = .ok 1 w := by kernel_rfl
theorem slice_hi (a : Option Addr) (len cap h : Nat) (hh : h ≤ cap) (w : World) : (Instr.sliceAt 95 (.slice a len cap) none (some (.int .i64 (h : Int))) none).run Tryz.prog w = .ok (.slice (sl a 0 cap) h cap) w := by
  rw [run_sliceAt_slice _ _ _ _ _ _ elem32, run_slice_h _ _ _ _ _ elem32 _ _ (by omega) (by omega), elem32', size5']
  rfl
theorem slice_lo (a : Option Addr) (len cap l : Nat) (hl : l ≤ len) (w : World) : (Instr.sliceAt 95 (.slice a len cap) (some (.int .i64 (l : Int))) none none).run Tryz.prog w = .ok (.slice (sl a l cap) (len - l) (cap - l)) w := by
  rw [run_sliceAt_slice _ _ _ _ _ _ elem32, run_slice_l _ _ _ _ _ elem32 _ _ (by omega) (by omega), elem32', size5']
  rfl

theorem info5 : (Tryz.prog.info? 5).map (fun i => (i.zero, i.size, i.bytes)) = some (some (.int .u8 0), 1, 1) := by kernel_rfl

/-- 'make([]byte, n)'. -/
theorem make_bytes (w : World) (n : Nat) (h : n ≤ 281474976710656) : ∃ w' cur, (Instr.makeSlice 95 (.int .i64 (n : Int)) (.int .i64 (n : Int))).run Tryz.prog w = .ok (.slice (some ⟨w.heap.size, 0, none⟩) n n) w' ∧
    w'.heap[w.heap.size]? = some (.cells cur 5 (0, 0)) ∧ cur.size = n ∧ Below w.heap.size w w' := by
  obtain ⟨i0, hi, hz0, hz1, hz2⟩ := info_parts info5
  obtain ⟨w', hrun, own, gr⟩ := run_make_full (P := Tryz.prog) w w.heap.size 95 5 i0 (.int .u8 0) 1 (by kernel_rfl) hi hz0 hz1 .i64 .i64 n (by rw [hz2]; omega) (by unfold maxLen; omega) (Nat.le_refl _)
  have hb : Below w.heap.size w w' := (Below.refl _ _).grown gr (Nat.le_refl _) (fun k e => by cases e)
  rcases own.2 with ⟨h1, _⟩ | ⟨g, cap, cur, h1, _, h3, _, _, h6, _⟩
  · cases h1
  · injection h1 with e1 e2 e3
    injection e1 with e1
    injection e1 with e1 e4 e5
    subst e1 e3
    exact ⟨w', cur, hrun, h3, by omega, hb⟩

theorem RowF.short {w : World} {a : Option Addr} {f : Nat → Nat} {n k : Nat} (h : RowF w a f n) (hk : k ≤ n) : RowF w a f k := by
  rcases h with h | ⟨p, off, e, hc⟩
  · exact Or.inl (by omega)
  · exact Or.inr ⟨p, off, e, fun i hi => hc i (by omega)⟩

theorem make_bytes_c (w : World) (n : Nat) (N : Int) (hN : N = (n : Int)) (h : n ≤ 281474976710656) : ∃ w' cur, (Instr.makeSlice 95 (.int .i64 N) (.int .i64 N)).run Tryz.prog w = .ok (.slice (some ⟨w.heap.size, 0, none⟩) n n) w' ∧
    w'.heap[w.heap.size]? = some (.cells cur 5 (0, 0)) ∧ cur.size = n ∧ Below w.heap.size w w' := by
  subst hN; exact make_bytes w n h
theorem size5info : (Tryz.prog.info? 5).map (·.size) = some 1 := by kernel_rfl
theorem under32 : Tryz.prog.underlying 95 = some (.slice 5) := by kernel_rfl

/-- The cells of the first n of f's numbers. -/
def cellsOf (f : Nat → Nat) (n : Nat) : List Value := (List.range n).map (fun i => Value.int .u8 ((f i : Nat) : Int))
theorem cellsOf_length (f : Nat → Nat) (n : Nat) : (cellsOf f n).length = n := by simp [cellsOf]
theorem cellsOf_at (f : Nat → Nat) (n i : Nat) (h : i < n) : (cellsOf f n)[i]? = some (.int .u8 ((f i : Nat) : Int)) := by simp [cellsOf, h]
theorem cellsOf_one (f : Nat → Nat) (n : Nat) : ∀ v ∈ cellsOf f n, v.oneCell' = true := by
  intro v hv; simp only [cellsOf, List.mem_map] at hv; obtain ⟨i, _, rfl⟩ := hv; rfl
theorem RowF.src {w : World} {a : Option Addr} {f : Nat → Nat} {n : Nat} (h : RowF w a f n) (hp : 0 < (cellsOf f n).length) :
    ∃ ad, a = some ad ∧ ∀ j v, (cellsOf f n)[j]? = some v → w.cell? (ad.add j) = some v := by
  rw [cellsOf_length] at hp
  rcases h with h | ⟨p, off, rfl, hc⟩
  · exfalso; omega
  · refine ⟨_, rfl, fun j v hv => ?_⟩
    have hj : j < n := by
      have := (List.getElem?_eq_some_iff.1 hv).1
      rwa [cellsOf_length] at this
    rw [cellsOf_at f n j hj] at hv
    have e : (⟨p, off, none⟩ : Addr).add j = ⟨p, off + j, none⟩ := by unfold Addr.add; split <;> simp_all
    rw [e, hc j hj]; exact hv

theorem fill_step {w Y : World} {G n j : Nat} {C : Array Value} {g : Nat → Nat} {M : Prop} {l : Nat} (hL : l ≤ j) (hlt : j < n) (hC : C.size = n) (hG : w.heap.size ≤ G) (yG : Y.heap[G]? = some (.cells C 5 (0, 0)))
    (hQ : ∀ q, q < j → C[q]? = some (.int .u8 ((g q : Nat) : Int))) (yB : Below w.heap.size w Y) (hM : M) :
    (∃ (j' : Nat) (C' : Array Value), l ≤ j' ∧ j' ≤ n ∧ Value.int .i64 ((j : Int) + 1) = .int .i64 (j' : Int) ∧ C'.size = n ∧ Hid ((Y.setCell ⟨G, j, none⟩ (.int .u8 ((g j : Nat) : Int))).heap[G]? = some (.cells C' 5 (0, 0))) ∧
      Hid (∀ q, q < j' → C'[q]? = some (.int .u8 ((g q : Nat) : Int))) ∧ Below w.heap.size w (Y.setCell ⟨G, j, none⟩ (.int .u8 ((g j : Nat) : Int)))) ∧ M := by
  refine ⟨⟨j + 1, C.setIfInBounds j (.int .u8 ((g j : Nat) : Int)), by omega, by omega, by go_num, by simp [hC], ?_, ?_, yB.setCell hG _⟩, hM⟩
  · show _ = _
    rw [setCell_eq_setRow Y G j C 5 (0, 0) _ yG]; exact setRow_heap Y G C _ 5 (0, 0) yG
  · intro q hq
    by_cases e : q = j
    · subst e; rw [Array.getElem?_setIfInBounds_self_of_lt (by omega)]
    · rw [Array.getElem?_setIfInBounds_ne (by omega)]; exact hQ q (by omega)

/-- 'copy' of a row of bytes to the head of a row of the call's own. -/
theorem copy_bytes {w w3 : World} {G l c d : Nat} {a : Option Addr} {f : Nat → Nat} {cur : Array Value} (ra : RowF w3 a f l) (hg : w3.heap[G]? = some (.cells cur 5 (0, 0))) (hcs : cur.size = d) (hld : l ≤ d) (hG : w.heap.size ≤ G) (hb : Below w.heap.size w w3) :
    ∃ w4 C, (Builtin.copy_ #[95, 95] 3 #[.slice (some ⟨G, 0, none⟩) d d, .slice a l c]).run Tryz.prog w3 = .ok (goInt l) w4 ∧ w4.heap[G]? = some (.cells C 5 (0, 0)) ∧ C.size = d ∧ (∀ q, q < l → C[q]? = some (.int .u8 ((f q : Nat) : Int))) ∧ Below w.heap.size w w4 := by
  by_cases h0 : l = 0
  · subst h0
    exact ⟨w3, cur, run_copy_none w3 95 95 3 5 _ _ d d 0 c under32 size5info (by simp), hg, hcs, fun q hq => by omega, hb⟩
  · obtain ⟨ad, rfl, hsrc⟩ := ra.src (by rw [cellsOf_length]; omega)
    have hr := run_copy_row (P := Tryz.prog) w3 95 95 3 5 G 0 d d ad l c cur 5 (cellsOf f l) under32 size5info hg (by rw [cellsOf_length]; exact (Nat.min_eq_left hld).symm) hsrc (by rw [cellsOf_length]; omega) (cellsOf_one f l)
    rw [cellsOf_length] at hr
    refine ⟨_, _, hr, setRow_heap w3 G cur _ 5 (0, 0) hg, ?_, fun q hq => ?_, below_setRow hb hG _⟩
    · simp [cellsOf_length, hcs]; omega
    · simp only [List.take_zero, List.nil_append, List.getElem?_toArray]
      rw [List.getElem?_append_left (by rw [cellsOf_length]; exact hq)]
      exact cellsOf_at f l q hq

/-- What Roomy's list holds. -/
def roomF (f : Nat → Nat) (l M : Nat) (q : Nat) : Nat := if q < l then f q else M

theorem tmod_bd (n : Int) (h : Nat) : -((h : Int) + 1) < n.tmod ((h : Int) + 1) ∧ n.tmod ((h : Int) + 1) < (h : Int) + 1 := by
  have h1 := Int.tmod_lt_of_pos n (show (0 : Int) < (h : Int) + 1 by omega)
  have h2 := Int.lt_tmod_of_pos n (show (0 : Int) < (h : Int) + 1 by omega)
  exact ⟨h2, h1⟩

set_option maxHeartbeats 400000 in
set_option maxRecDepth 100000 in
theorem within_any (n : Int) (h : Nat) (hh : h ≤ 4611686018427387000) (w : World) :
    Calls Tryz.prog 7 #[.int .i64 n, .int .i64 0, .int .i64 (h : Int)] w fun e w' => (∃ k : Nat, k ≤ h ∧ e = .returned (.int .i64 (k : Int))) ∧ w' = w := by
  obtain ⟨q1, q2⟩ := tmod_bd n h
  obtain ⟨q, hq⟩ : ∃ q, n.tmod ((h : Int) + 1) = q := ⟨_, rfl⟩
  rw [hq] at q1 q2
  have hne : ((h : Int) + 1 == 0) = false := by simp; omega
  have hne2 : ¬ ((h : Int) + 1 = -1) := by omega
  by_cases q0 : q < 0
  · go_enter Tryz.func7, Tryz.ntmps7
    go_wp2
    go_ret
    exact ⟨⟨(q + h + 1).toNat, by omega, ret_int (by omega)⟩, rfl⟩
  · go_enter Tryz.func7, Tryz.ntmps7
    go_wp2
    go_ret
    exact ⟨⟨q.toNat, by omega, ret_int (by omega)⟩, rfl⟩
set_option maxRecDepth 100000 in
theorem within_c (n L H : Int) (h : Nat) (hL : L = 0) (hH : H = (h : Int)) (hh : h ≤ 4611686018427387000) (w : World) :
    Calls Tryz.prog 7 #[.int .i64 n, .int .i64 L, .int .i64 H] w fun e w' => (∃ k : Nat, k ≤ h ∧ e = .returned (.int .i64 (k : Int))) ∧ w' = w := by
  subst hL hH; exact within_any n h hh w

theorem size_len (s : ByteArray) : s.data.toList.length = s.size := Array.length_toList
/-- The byte at a place; nought behind the end. -/
def bt (s : ByteArray) (i : Nat) : Nat := (s.data.toList.getD i 0).toNat
theorem bt_lt (s : ByteArray) (i : Nat) : bt s i < 256 := (s.data.toList.getD i 0).toNat_lt
theorem bt_out {s : ByteArray} {i : Nat} (h : s.size ≤ i) : bt s i = 0 := by
  unfold bt
  rw [List.getD_eq_getElem?_getD, List.getElem?_eq_none (by rw [size_len]; exact h)]; rfl
/-- A string out of numbers. -/
def mkS (f : Nat → Nat) (n : Nat) : ByteArray := ⟨((List.range n).map fun i => UInt8.ofNat (f i)).toArray⟩
theorem mkS_size (f : Nat → Nat) (n : Nat) : (mkS f n).size = n := by simp [mkS, ByteArray.size]
theorem bt_mkS {f : Nat → Nat} {n i : Nat} (hf : f i < 256) (hi : i < n) : bt (mkS f n) i = f i := by
  unfold bt mkS
  simp [List.getD_eq_getElem?_getD, hi]
  omega
theorem str_ext {s t : ByteArray} (h : s.size = t.size) (h2 : ∀ i, i < s.size → bt s i = bt t i) : s = t := by
  apply ByteArray.ext
  apply Array.toList_inj.1
  apply List.ext_getElem?
  intro i
  by_cases hi : i < s.size
  · have e := h2 i hi
    unfold bt at e
    have h1 : i < s.data.toList.length := by rw [size_len]; exact hi
    have h3 : i < t.data.toList.length := by rw [size_len]; omega
    rw [List.getD_eq_getElem?_getD, List.getD_eq_getElem?_getD, List.getElem?_eq_getElem h1, List.getElem?_eq_getElem h3] at e
    rw [List.getElem?_eq_getElem h1, List.getElem?_eq_getElem h3]
    exact congrArg some (UInt8.toNat_inj.1 e)
  · rw [List.getElem?_eq_none (by rw [size_len]; omega), List.getElem?_eq_none (by rw [size_len]; omega)]
theorem mkS_congr {f g : Nat → Nat} {n : Nat} (h : ∀ i, i < n → f i = g i) : mkS f n = mkS g n := by
  unfold mkS
  have : (List.range n).map (fun i => UInt8.ofNat (f i)) = (List.range n).map (fun i => UInt8.ofNat (g i)) := List.map_congr_left (fun i hi => by rw [h i (List.mem_range.1 hi)])
  rw [this]
theorem mkS_self (s : ByteArray) : mkS (bt s) s.size = s := str_ext (mkS_size _ _) (fun i hi => bt_mkS (bt_lt s i) (by rw [mkS_size] at hi; exact hi))
theorem mkS_nil (f : Nat → Nat) : mkS f 0 = ⟨#[]⟩ := rfl
theorem mkS_inj {f g : Nat → Nat} {n : Nat} (hf : ∀ i, f i < 256) (hg : ∀ i, g i < 256) (h : mkS f n = mkS g n) (i : Nat) (hi : i < n) : f i = g i := by
  rw [← bt_mkS (hf i) hi, h, bt_mkS (hg i) hi]

theorem under9 : Tryz.prog.underlying 9 = some .string := by kernel_rfl
theorem under5 : Tryz.prog.underlying 5 = some (.int .u8) := by kernel_rfl
/-- string(b). -/
theorem conv_str (w : World) (a : Option Addr) (n c : Nat) (f : Nat → Nat) (r : RowF w a f n) : (convert 95 9 (.slice a n c)).run Tryz.prog w = .ok (.string (mkS f n)) w := by
  rcases r with rfl | ⟨p, off, rfl, hc⟩
  · rw [run_convert_bytes_string w 95 9 5 _ 0 c under32 under5 under9]
    cases a <;> simp [Conv.bytesToString, loadCells]
    all_goals rfl
  · rw [run_convert_bytes_arg w 95 5 under32 under5 p off n c ((List.range n).map fun i => ((f i : Nat) : Int)) (by simp) (fun i hi => by
      rw [hc i hi]; simp [List.getD_eq_getElem?_getD, hi]) 9 under9]
    unfold strOfNums mkS
    simp
end Go.Proofs.YtfinaichajbnkaaGreatDoor.Wi


namespace Go.Proofs.YtfinaichajbnkaaGreatDoor.Wi
open Go.RowKit

/-- A list's cells, its places. -/
def cl (l : List Nat) : List Value := l.map fun x => Value.int .u8 ((x : Nat) : Int)
def lf (l : List Nat) (i : Nat) : Nat := l.getD i 0
theorem cl_length (l : List Nat) : (cl l).length = l.length := by simp [cl]
theorem cl_at {l : List Nat} {j : Nat} (h : j < l.length) : (cl l)[j]? = some (.int .u8 ((lf l j : Nat) : Int)) := by
  simp [cl, lf, List.getD_eq_getElem?_getD, h]
theorem cl_one (l : List Nat) : ∀ v ∈ cl l, v.oneCell' = true := by
  intro v hv; simp only [cl, List.mem_map] at hv; obtain ⟨i, _, rfl⟩ := hv; rfl
theorem cl_append (l m : List Nat) : cl (l ++ m) = cl l ++ cl m := by simp [cl]
theorem lf_left {l m : List Nat} {j : Nat} (h : j < l.length) : lf (l ++ m) j = lf l j := by
  simp [lf, List.getD_eq_getElem?_getD, List.getElem?_append_left h]
theorem lf_right {l m : List Nat} {j : Nat} : lf (l ++ m) (l.length + j) = lf m j := by
  simp [lf, List.getD_eq_getElem?_getD, List.getElem?_append_right]
theorem lf_out {l : List Nat} {j : Nat} (h : l.length ≤ j) : lf l j = 0 := by
  simp [lf, List.getD_eq_getElem?_getD, List.getElem?_eq_none h]
theorem lf_lt {l : List Nat} (h : ∀ x ∈ l, x < 256) (j : Nat) : lf l j < 256 := by
  by_cases hj : j < l.length
  · have : lf l j = l[j] := by simp [lf, List.getD_eq_getElem?_getD, hj]
    rw [this]; exact h _ (List.getElem_mem hj)
  · rw [lf_out (by omega)]; decide
theorem list_ext {l m : List Nat} (h1 : l.length = m.length) (h : ∀ i, i < l.length → lf l i = lf m i) : l = m := by
  apply List.ext_getElem h1
  intro i h2 h3
  have := h i h2
  simpa [lf, List.getD_eq_getElem?_getD, h2, h3] using this
/-- The first n of f's numbers. -/
def tab (f : Nat → Nat) (n : Nat) : List Nat := (List.range n).map f
theorem tab_length (f : Nat → Nat) (n : Nat) : (tab f n).length = n := by simp [tab]
theorem lf_tab {f : Nat → Nat} {n i : Nat} (h : i < n) : lf (tab f n) i = f i := by simp [lf, tab, List.getD_eq_getElem?_getD, h]
theorem tab_lf (l : List Nat) : tab (lf l) l.length = l := list_ext (tab_length _ _) (fun i hi => lf_tab (by rw [tab_length] at hi; exact hi))
theorem tab_congr {f g : Nat → Nat} {n : Nat} (h : ∀ i, i < n → f i = g i) : tab f n = tab g n := List.map_congr_left (fun i hi => h i (List.mem_range.1 hi))
/-- A string's bytes. -/
def sb (s : ByteArray) : List Nat := tab (bt s) s.size
theorem sb_length (s : ByteArray) : (sb s).length = s.size := tab_length _ _
theorem cl_sb (s : ByteArray) : byteCells s = cl (sb s) := by
  apply List.ext_getElem?
  intro i
  by_cases h : i < s.size
  · rw [cl_at (by rw [sb_length]; exact h)]
    unfold byteCells sb
    rw [lf_tab h]
    have h1 : i < s.data.toList.length := by rw [size_len]; exact h
    rw [List.getElem?_map, List.getElem?_eq_getElem h1]
    unfold bt
    rw [List.getD_eq_getElem?_getD, List.getElem?_eq_getElem h1]
    rfl
  · rw [List.getElem?_eq_none (by rw [byteCells_length]; omega), List.getElem?_eq_none (by rw [cl_length, sb_length]; omega)]

/-- Bytes of the call's own, from block B on. -/
def OwnC (w : World) (B : Nat) (v : Value) (l : List Nat) : Prop :=
  (v = .slice none 0 0 ∧ l = []) ∨ ∃ g cap, v = .slice (some ⟨g, 0, none⟩) l.length cap ∧ B ≤ g ∧ g < w.heap.size ∧ l.length ≤ cap ∧ cap ≤ maxLen ∧ (∀ j, j < l.length → w.cell? ⟨g, j, none⟩ = some (.int .u8 ((lf l j : Nat) : Int))) ∧
    ∀ j, j < cap → (w.cell? ⟨g, j, none⟩).isSome = true ∧ w.frozen? ⟨g, j, none⟩ = false
theorem OwnC.row {w : World} {B : Nat} {v : Value} {l : List Nat} (h : OwnC w B v l) : ∃ a c, v = .slice a l.length c ∧ l.length ≤ c ∧ RowF w a (lf l) l.length := by
  rcases h with ⟨rfl, rfl⟩ | ⟨g, cap, rfl, _, _, h1, _, h2, _⟩
  · exact ⟨none, 0, rfl, Nat.le_refl _, Or.inl rfl⟩
  · exact ⟨_, cap, rfl, h1, Or.inr ⟨g, 0, rfl, fun i hi => by rw [Nat.zero_add]; exact h2 i hi⟩⟩
theorem OwnC.mono {w : World} {B B' : Nat} {v : Value} {l : List Nat} (h : OwnC w B v l) (hB : B' ≤ B) : OwnC w B' v l := by
  rcases h with h | ⟨g, cap, h1, h2, h3⟩
  · exact .inl h
  · exact .inr ⟨g, cap, h1, Nat.le_trans hB h2, h3⟩
theorem cell_up {w w' : World} {b o : Nat} {v : Value} (hb : Below w.heap.size w w') (h : w.cell? ⟨b, o, none⟩ = some v) : w'.cell? ⟨b, o, none⟩ = some v :=
  (hb.cell (p := ⟨b, o, none⟩) (World.block_lt_of_cell? _ _ h)).trans h
theorem OwnC.up {w w' : World} {B : Nat} {v : Value} {l : List Nat} (h : OwnC w B v l) (hb : Below w.heap.size w w') : OwnC w' B v l := by
  rcases h with h | ⟨g, cap, h1, h2, h3, h4, h5, h6, h7⟩
  · exact .inl h
  · exact .inr ⟨g, cap, h1, h2, Nat.lt_of_lt_of_le h3 hb.size, h4, h5, fun j hj => cell_up hb (h6 j hj), fun j hj => by
      have e := hb.block g h3
      exact ⟨by rw [World.cell?_of_block (a := ⟨g, j, none⟩) e]; exact (h7 j hj).1, (World.frozen?_of_block (a := ⟨g, j, none⟩) e).trans (h7 j hj).2⟩⟩
theorem below_setCells {B : Nat} {w0 w : World} (h : Below B w0 w) {g : Nat} (hg : B ≤ g) (o : Nat) (vs : List Value) (hgw : B ≤ w.heap.size) : Below B w0 (w.setCells g o vs) := by
  induction vs generalizing o w with
  | nil => exact h
  | cons v vs ih => exact ih (h.setCell (p := ⟨g, o, none⟩) hg v) (o + 1) (by simpa [World.setCell] using hgw)
theorem size_setCells (w : World) (g o : Nat) (vs : List Value) : (w.setCells g o vs).heap.size = w.heap.size := by
  induction vs generalizing o w with
  | nil => rfl
  | cons v vs ih => show ((w.setCell ⟨g, o, none⟩ v).setCells g (o + 1) vs).heap.size = _; rw [ih]; simp [World.setCell]

theorem some_setCell (w : World) (a x : Addr) (v : Value) (h : (w.cell? x).isSome = true) : ((w.setCell a v).cell? x).isSome = true := by
  obtain ⟨u, hu⟩ := Option.isSome_iff_exists.1 h
  by_cases e : a = x
  · subst e; rw [World.cell?_setCell_same _ _ _ hu]; rfl
  · rw [World.cell?_setCell_other _ _ _ _ e]; exact h
theorem some_setCells (b : Nat) : ∀ (vs : List Value) (o : Nat) (w : World) (x : Addr), (w.cell? x).isSome = true → ((w.setCells b o vs).cell? x).isSome = true
  | [], _, _, _, h => h
  | v :: vs, o, w, x, h => some_setCells b vs (o + 1) (w.setCell ⟨b, o, none⟩ v) x (some_setCell w _ x v h)
/-- append. -/
theorem app_src {w : World} {B : Nat} {v x : Value} {l m : List Nat} (tx : TypeId) (h : OwnC w B v l) (hB : B ≤ w.heap.size) (hs : Src Tryz.prog 1 tx x m.length (cl m) w) (hb : l.length + m.length ≤ 140737488355328) :
    ∃ v' w', (Builtin.append_ #[95, tx] 95 #[v, x]).run Tryz.prog w = .ok v' w' ∧ OwnC w' B v' (l ++ m) ∧ Below B w w' := by
  obtain ⟨i0, hi, hz0, hz1, hz2⟩ := info_parts info5
  have hs' : Src Tryz.prog i0.size tx x m.length (cl m) w := by rw [hz1]; exact hs
  by_cases m0 : m.length = 0
  · have : m = [] := List.eq_nil_of_length_eq_zero m0
    subst this
    rw [List.append_nil]
    obtain ⟨a, c, rfl, hc, _⟩ := h.row
    exact ⟨_, w, run_append_nothing w 95 tx 95 5 i0 under32 hi a l.length c hc x hs', h, Below.refl _ _⟩
  have hmax : l.length + m.length ≤ maxLen := by unfold maxLen; omega
  have grow : ∀ (a : Option Addr) (c : Nat), v = .slice a l.length c → c < l.length + m.length → (Builtin.firstCells i0.size l.length (.slice a l.length c)).run Tryz.prog w.drew = .ok (cl l).toArray w.drew →
      ∃ v' w', (Builtin.append_ #[95, tx] 95 #[v, x]).run Tryz.prog w = .ok v' w' ∧ OwnC w' B v' (l ++ m) ∧ Below B w w' := by
    rintro a c rfl hc hold
    have hr := run_append_grow_src (P := Tryz.prog) w 95 tx 95 5 i0 (.int .u8 0) under32 hi hz0 a l.length c (cl l) hold x m.length (cl m) hs' hc (by omega) (by rw [hz2]; exact growslice_fits hc (by omega))
    have hge := grownCap_ge w (l.length + m.length) c 5
    have hcm := grownCap_le_maxLen w (l.length + m.length) c 5 hmax
    obtain ⟨cap, hcap⟩ : ∃ cap, grownCap w (l.length + m.length) c 5 = cap := ⟨_, rfl⟩
    rw [hcap] at hr hge hcm
    have hsz : ((cl l ++ cl m).toArray ++ Builtin.zeroCells (Value.int .u8 0).cells (cap - (l.length + m.length))).size = cap := by
      rw [Array.size_append, List.size_toArray, size_zeroCells, List.length_append, cl_length, cl_length]
      rw [show (Value.int .u8 0).cells.size = 1 from rfl, Nat.mul_one]
      omega
    refine ⟨_, _, hr, .inr ⟨w.heap.size, cap, by rw [List.length_append], hB, by simp, by rw [List.length_append]; exact hge, hcm, fun j hj => ?_, fun j hj => ⟨?_, ?_⟩⟩, ?_⟩
    · refine (World.cell?_alloc_new w.drew _ _ j).trans ?_
      rw [List.length_append] at hj
      rw [Array.getElem?_append_left (by simp [cl_length]; exact hj), List.getElem?_toArray, ← cl_append]
      exact cl_at (by rw [List.length_append]; exact hj)
    · have e : (w.drew.alloc (.cells ((cl l ++ cl m).toArray ++ Builtin.zeroCells (Value.int .u8 0).cells (cap - (l.length + m.length))) 5)).cell? ⟨w.heap.size, j, none⟩ = _ := World.cell?_alloc_new w.drew _ _ j
      rw [e, Array.getElem?_eq_getElem (by rw [hsz]; exact hj)]; rfl
    · exact World.frozen?_alloc_new w.drew _ _ j
    · exact (Below.refl B w).drew.alloc hB _
  rcases h with ⟨rfl, rfl⟩ | ⟨g, cap, rfl, h2, h3, h4, h5, h6, h7⟩
  · exact grow none 0 rfl (by simp; omega) (by simpa [cl] using run_firstCells_none (P := Tryz.prog) w.drew i0.size 0 0 0)
  · by_cases hroom : l.length + m.length ≤ cap
    · have hr := run_append_room_src (P := Tryz.prog) w 95 tx 95 5 i0 under32 hi g 0 l.length cap x m.length (cl m) hs' hroom (fun j hj => by
          rw [cl_length] at hj
          rw [hz1, Nat.zero_add, Nat.mul_one]
          exact (h7 (l.length + j) (by omega)).1) (fun j hj => by
          rw [cl_length] at hj
          rw [hz1, Nat.zero_add, Nat.mul_one]
          exact (h7 (l.length + j) (by omega)).2)
      rw [hz1, Nat.zero_add, Nat.mul_one] at hr
      refine ⟨_, _, hr, .inr ⟨g, cap, by rw [List.length_append], h2, by rw [size_setCells]; exact h3, by rw [List.length_append]; exact hroom, h5, fun j hj => ?_, fun j hj => ⟨?_, ?_⟩⟩, below_setCells (Below.refl B w) h2 _ _ hB⟩
      · rw [List.length_append] at hj
        by_cases hj1 : j < l.length
        · rw [World.cell?_setCells_out g (cl m) l.length w ⟨g, j, none⟩ (fun _ _ => .inl hj1), lf_left hj1]; exact h6 j hj1
        · have e := World.cell?_setCells_in g (cl m) l.length w (fun q hq => by rw [cl_length] at hq; exact (h7 (l.length + q) (by omega)).1) (j - l.length) (by rw [cl_length]; omega)
          rw [show l.length + (j - l.length) = j by omega] at e
          rw [e]
          have e2 := cl_at (l := m) (j := j - l.length) (by omega)
          rw [List.getElem?_eq_getElem (by rw [cl_length]; omega)] at e2
          rw [e2, ← lf_right (l := l), show l.length + (j - l.length) = j by omega]
      · exact some_setCells g _ _ _ _ (h7 j hj).1
      · rw [World.frozen?_setCells]; exact (h7 j hj).2
    · refine grow _ cap rfl (by omega) (run_firstCells_some (P := Tryz.prog) w.drew i0.size l.length ⟨g, 0, none⟩ l.length cap (cl l) (by rw [cl_length, hz1, Nat.mul_one]) (fun j u hu => ?_))
      have hj : j < l.length := by
        have := (List.getElem?_eq_some_iff.1 hu).1
        rwa [cl_length] at this
      rw [cl_at hj] at hu
      rw [← hu]
      have e : (⟨g, 0, none⟩ : Addr).add j = ⟨g, j, none⟩ := by unfold Addr.add; split <;> simp_all
      rw [e]; exact h6 j hj
end Go.Proofs.YtfinaichajbnkaaGreatDoor.Wi



namespace Go.Proofs.YtfinaichajbnkaaGreatDoor.Wi
open Go.RowKit
theorem and1 (u : Nat) (h : u < 18446744073709551616) : bits .and .u64 (u : Int) 1 = ((u % 2 : Nat) : Int) := by
  have := u64_and_nat u 1 h (by decide)
  rw [Nat.and_one_is_mod] at this; exact this
theorem and127 (u : Nat) (h : u < 18446744073709551616) : bits .and .u64 (u : Int) 127 = ((u % 128 : Nat) : Int) := by
  have := u64_and_nat u 127 h (by decide)
  rw [show (127 : Nat) = 2 ^ 7 - 1 by decide, Nat.and_two_pow_sub_one_eq_mod] at this; exact this
set_option maxRecDepth 20000 in
theorem or128 (c : Nat) (h : c < 256) : bits .or .u8 (c : Int) 128 = ((c % 128 + 128 : Nat) : Int) := by
  have := u8_or_nat c 128 h (by decide)
  rw [show c ||| 128 = c % 128 + 128 from (by decide : ∀ c : Fin 256, c.val ||| 128 = c.val % 128 + 128) ⟨c, h⟩] at this; exact this
set_option maxRecDepth 20000 in
theorem andNot128 (c : Nat) (h : c < 256) : bits .andNot .u8 (c : Int) 128 = ((c % 128 : Nat) : Int) := by
  have := u8_andNot_nat c 128 h (by decide)
  rw [show c &&& (255 - 128) = c % 128 from (by decide : ∀ c : Fin 256, c.val &&& (255 - 128) = c.val % 128) ⟨c, h⟩] at this; exact this
set_option maxRecDepth 20000 in
theorem and127' (c : Nat) (h : c < 256) : bits .and .u8 (c : Int) 127 = ((c % 128 : Nat) : Int) := by
  have := u8_and_nat c 127 h (by decide)
  rw [show c &&& 127 = c % 128 from (by decide : ∀ c : Fin 256, c.val &&& 127 = c.val % 128) ⟨c, h⟩] at this; exact this
theorem umax : IntKind.u64.max = 18446744073709551615 := by decide
theorem unot (x : Nat) (h : x < 18446744073709551616) : bits .xor .u64 IntKind.u64.max (x : Int) = ((18446744073709551615 - x : Nat) : Int) := by
  rw [umax]
  show IntKind.u64.wrap ((BitVec.ofInt 64 18446744073709551615 ^^^ BitVec.ofInt 64 (x : Int)).toNat : Int) = _
  have h1 : BitVec.ofInt 64 18446744073709551615 = BitVec.allOnes 64 := by decide
  rw [h1, BitVec.allOnes_xor, BitVec.toNat_not, ofInt_u64 x h]
  simp [IntKind.wrap, IntKind.bits, IntKind.signed]
  omega
theorem inot (a : Int) (h1 : -9223372036854775808 ≤ a) (h2 : a ≤ 9223372036854775807) : bits .xor .i64 (-1) a = -1 - a := by
  show IntKind.i64.wrap ((BitVec.ofInt 64 (-1) ^^^ BitVec.ofInt 64 a).toNat : Int) = _
  have h3 : BitVec.ofInt 64 (-1) = BitVec.allOnes 64 := by decide
  rw [h3, BitVec.allOnes_xor, BitVec.toNat_not, BitVec.toNat_ofInt]
  simp [IntKind.wrap, IntKind.bits, IntKind.signed]
  omega
theorem orsh (acc c i : Nat) (h : acc < 2 ^ (7 * i)) (h2 : acc + c * 2 ^ (7 * i) < 18446744073709551616) : bits .or .u64 (acc : Int) ((c * 2 ^ (7 * i) : Nat) : Int) = ((acc + c * 2 ^ (7 * i) : Nat) : Int) := by
  rw [u64_or_nat acc _ (by omega) (by omega), Nat.or_comm, Nat.mul_comm c, ← Nat.two_pow_add_eq_or_of_lt h, Nat.add_comm]
theorem or1 (a : Nat) (h : a % 2 = 0) (h2 : a < 18446744073709551616) : bits .or .u64 (a : Int) 1 = ((a + 1 : Nat) : Int) := by
  have := u64_or_nat a 1 h2 (by decide)
  rw [show a ||| 1 = a + 1 by
    have e := Nat.two_pow_add_eq_or_of_lt (i := 1) (b := 1) (by decide) (a / 2)
    rw [show 2 ^ 1 * (a / 2) = a by omega] at e
    exact e.symm] at this
  exact this
set_option maxRecDepth 100000 in
theorem folded_any (n : Int) (h1 : -9223372036854775808 ≤ n) (h2 : n ≤ 9223372036854775807) (w : World) : Calls Tryz.prog 83 #[.int .i64 n] w fun e w' => e = .returned (.int .u64 ((fold n : Nat) : Int)) ∧ w = w' := by
  by_cases h : n < 0
  · have hfn : Hid (fold n = (-n - 1).toNat * 2 + 1) := by show _ = _; unfold fold; rw [if_pos h]
    go_enter Tryz.func83, Tryz.ntmps83
    go_wp2
    go_ret
    refine ⟨ret_int ?_, rfl⟩
    have e : IntKind.u64.wrap (IntKind.u64.wrap n * 2) = ((18446744073709551615 - fold n : Nat) : Int) := by
      rw [IntKind.wrap_u64, IntKind.wrap_u64, hfn.out]
      omega
    have hf := fold_lt h1 h2
    rw [e, unot _ (by omega)]
    congr 1; omega
  · have i1 : decide (n < (0 : Int)) = false := by simp; omega
    have hfn : Hid ((fold n : Int) = n * 2) := by show _ = _; unfold fold; rw [if_neg h]; omega
    go_enter Tryz.func83, Tryz.ntmps83
    go_wp2
    go_ret
    exact ⟨ret_int hfn.out.symm, rfl⟩
set_option maxRecDepth 100000 in
theorem unfolded_any (u : Nat) (h2 : u < 18446744073709551616) (w : World) : Calls Tryz.prog 90 #[.int .u64 (u : Int)] w fun e w' => e = .returned (.int .i64 (unf u)) ∧ w = w' := by
  have e1 := and1 u h2
  have e2 := inot ((u : Int) / 2) (by omega) (by omega)
  by_cases h : u % 2 = 1
  · have hu : Hid (unf u = -1 - ((u : Int) / 2)) := by show _ = _; unfold unf; rw [if_pos h]; omega
    rw [h] at e1
    clear h
    go_enter Tryz.func90, Tryz.ntmps90
    go_wp2
    go_ret
    exact ⟨ret_int hu.out.symm, rfl⟩
  · have hu : Hid (unf u = ((u : Int) / 2)) := by show _ = _; unfold unf; rw [if_neg h]; omega
    rw [show u % 2 = 0 by omega] at e1
    clear h e2
    go_enter Tryz.func90, Tryz.ntmps90
    go_wp2
    go_ret
    exact ⟨ret_int hu.out.symm, rfl⟩
/-- Sources of append. -/
theorem src_row {w : World} {a : Option Addr} {f : Nat → Nat} {n c : Nat} (h : RowF w a f n) : Src Tryz.prog 1 95 (.slice a n c) (tab f n).length (cl (tab f n)) w := by
  rw [tab_length]
  by_cases h0 : n = 0
  · subst h0
    cases a with
    | none => exact Src.ofNil _ under32 c
    | some ad => exact Src.ofSlice _ under32 ad 0 c [] (by simp) (fun j u h => by simp at h) (fun u h => by cases h)
  · rcases h with h | ⟨p, off, rfl, hc⟩
    · exact absurd h h0
    · refine Src.ofSlice _ under32 _ n c _ (by rw [cl_length, tab_length, Nat.mul_one]) (fun j u hu => ?_) (cl_one _)
      have hj : j < n := by
        have := (List.getElem?_eq_some_iff.1 hu).1
        rwa [cl_length, tab_length] at this
      rw [cl_at (by rw [tab_length]; exact hj), lf_tab hj] at hu
      have e : (⟨p, off, none⟩ : Addr).add j = ⟨p, off + j, none⟩ := by unfold Addr.add; split <;> simp_all
      rw [e, hc j hj]; exact hu
theorem src_one (w : World) (x : Nat) (c : Nat) : Src Tryz.prog 1 95 (.slice (some ⟨w.heap.size, 0, none⟩) 1 c) [x].length (cl [x]) (w.alloc (.cells #[.int .u8 ((x : Nat) : Int)] 5)) := by
  refine Src.ofSlice _ under32 _ 1 c _ (by simp [cl]) (fun j u hu => ?_) (cl_one _)
  have hj : j < 1 := by
    have := (List.getElem?_eq_some_iff.1 hu).1
    simpa [cl] using this
  have : j = 0 := by omega
  subst this
  have e : (⟨w.heap.size, 0, none⟩ : Addr).add 0 = ⟨w.heap.size, 0, none⟩ := by unfold Addr.add; split <;> simp_all
  rw [e, World.cell?_alloc_new]
  simpa [cl] using hu
theorem src_str (w : World) (s : ByteArray) : Src Tryz.prog 1 9 (.string s) (sb s).length (cl (sb s)) w := by
  rw [sb_length, ← cl_sb]; exact Src.ofString w under9 s
theorem app_row {w : World} {B : Nat} {v : Value} {l : List Nat} {a : Option Addr} {f : Nat → Nat} {n : Nat} (c : Nat) (h : OwnC w B v l) (hB : B ≤ w.heap.size) (hr : RowF w a f n) (hb : l.length + n ≤ 140737488355328) :
    ∃ v' w', (Builtin.append_ #[95, 95] 95 #[v, .slice a n c]).run Tryz.prog w = .ok v' w' ∧ OwnC w' B v' (l ++ tab f n) ∧ Below B w w' :=
  app_src 95 h hB (src_row hr) (by rw [tab_length]; exact hb)
theorem app_one {w : World} {B : Nat} {v : Value} {l : List Nat} (x : Nat) (h : OwnC w B v l) (hB : B ≤ w.heap.size) (hb : l.length + 1 ≤ 140737488355328) :
    ∃ v' w', (Builtin.append_ #[95, 95] 95 #[v, .slice (some ⟨w.heap.size, 0, none⟩) 1 1]).run Tryz.prog (w.alloc (.cells #[.int .u8 ((x : Nat) : Int)] 5)) = .ok v' w' ∧ OwnC w' B v' (l ++ [x]) ∧ Below B w w' := by
  have hb1 : Below B w (w.alloc (.cells #[.int .u8 ((x : Nat) : Int)] 5)) := (Below.refl _ _).alloc hB _
  have hb2 : Below w.heap.size w (w.alloc (.cells #[.int .u8 ((x : Nat) : Int)] 5)) := (Below.refl _ _).alloc (Nat.le_refl _) _
  obtain ⟨v', w', h1, h2, h3⟩ := app_src (m := [x]) 95 (h.up hb2) (by rw [World.size_alloc]; omega) (src_one w x 1) hb
  exact ⟨v', w', h1, h2, hb1.trans h3⟩
theorem app_str {w : World} {B : Nat} {v : Value} {l : List Nat} (s : ByteArray) (h : OwnC w B v l) (hB : B ≤ w.heap.size) (hb : l.length + s.size ≤ 140737488355328) :
    ∃ v' w', (Builtin.append_ #[95, 9] 95 #[v, .string s]).run Tryz.prog w = .ok v' w' ∧ OwnC w' B v' (l ++ sb s) ∧ Below B w w' :=
  app_src 9 h hB (src_str w s) (by rw [sb_length]; exact hb)
theorem wpList_append_run {P : Program} {w w' : World} {ops : Array Oper} {rest : List Oper} {o : Oper} {a : Act} {Q : Exit → Act → World → Prop} (hgd : o.guard = none) (s x : Operand) (t tx : TypeId)
    (ho : o.op = .call { callee := .builtin .append, args := #[s, x], argTypes := #[t, tx] }) (v xv v' : Value) (hs : a.eval s = v) (hx : a.eval x = xv)
    (hr : (Builtin.append_ #[t, tx] o.type #[v, xv]).run P w = .ok v' w') (h : wpList P ops Q rest (a.put o.dst v') w') : wpList P ops Q (o :: rest) a w := by
  refine wpList_plain hgd fun K hK => ?_
  unfold Oper.wp execOp
  simp only [ho, resolve, invoke, builtin, Sem.run_bind, Sem.run_pure, Result.andThen_ok, List.map_toArray, List.map_cons, List.map_nil, hs, hx, hr]
  exact hK _ _ h
end Go.Proofs.YtfinaichajbnkaaGreatDoor.Wi
