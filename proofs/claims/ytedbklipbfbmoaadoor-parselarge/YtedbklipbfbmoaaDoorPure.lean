/-
  WORDS, PLAIN: what Split, Number, a signed number, Key and Line tell of a text's bytes.
-/
import Derived.Test.YtedbklipbfbmoaaDoorMem
namespace Go.Proofs.YtedbklipbfbmoaaDoor

abbrev B := List UInt8

/-- The words; cur is the one under way. -/
def wd (cur : B) : B → List B
  | [] => if cur = [] then [] else [cur]
  | c :: r => if c = 32 then (if cur = [] then wd [] r else cur :: wd [] r) else wd (cur ++ [c]) r
def split (s : B) : List B := wd [] s
/-- No blank. -/
def nobl (t : B) : Prop := ∀ c ∈ t, c ≠ 32
theorem wd_run : ∀ (t cur r : B), nobl t → wd cur (t ++ r) = wd (cur ++ t) r
  | [], cur, r, _ => by simp
  | c :: t, cur, r, h => by
    have hc : c ≠ 32 := h c (by simp)
    rw [List.cons_append, wd, if_neg hc, wd_run t _ r (fun x hx => h x (by simp [hx]))]
    simp
theorem wd_blank (cur r : B) : wd cur (32 :: r) = (if cur = [] then [] else [cur]) ++ wd [] r := by
  rw [wd, if_pos rfl]; split <;> simp
theorem split_nobl (t : B) (h : nobl t) : split t = if t = [] then [] else [t] := by
  have := wd_run t [] [] h
  simp only [List.append_nil, List.nil_append] at this
  unfold split
  rw [this, wd]
theorem split_at (t r : B) (h : nobl t) : split (t ++ 32 :: r) = (if t = [] then [] else [t]) ++ split r := by
  unfold split
  rw [wd_run t [] _ h, List.nil_append, wd_blank]
theorem wd_app : ∀ (s cur t : B), wd cur (s ++ 32 :: t) = wd cur s ++ split t
  | [], cur, t => by rw [List.nil_append, wd_blank, wd]; rfl
  | c :: s, cur, t => by
    rw [List.cons_append, wd, wd]
    split
    · split
      · exact wd_app s [] t
      · rw [wd_app s [] t]; rfl
    · exact wd_app s _ t
theorem split_app (s t : B) : split (s ++ 32 :: t) = split s ++ split t := wd_app s [] t
theorem split_word (t : B) (h : nobl t) (h0 : t ≠ []) : split t = [t] := by rw [split_nobl t h, if_neg h0]
theorem split_blank (t : B) : split (32 :: t) = split t := by
  simp [split, wd]
theorem split_blanks : ∀ (k : Nat) (t : B), split (List.replicate k 32 ++ t) = split t
  | 0, t => by simp
  | k + 1, t => by rw [List.replicate_succ, List.cons_append, split_blank, split_blanks k t]
theorem wd_words : ∀ (s cur : B), nobl cur → ∀ p ∈ wd cur s, p ≠ [] ∧ nobl p
  | [], cur, h, p, hp => by
    rw [wd] at hp
    split at hp
    · cases hp
    · rename_i hc
      simp only [List.mem_singleton] at hp
      subst hp; exact ⟨hc, h⟩
  | c :: s, cur, h, p, hp => by
    rw [wd] at hp
    split at hp
    · split at hp
      · exact wd_words s [] (fun _ hx => by cases hx) p hp
      · rename_i hc
        rcases List.mem_cons.1 hp with rfl | hp
        · exact ⟨hc, h⟩
        · exact wd_words s [] (fun _ hx => by cases hx) p hp
    · rename_i hc
      exact wd_words s _ (fun x hx => by
        rcases List.mem_append.1 hx with hx | hx
        · exact h x hx
        · simp only [List.mem_singleton] at hx; subst hx; exact hc) p hp
theorem split_words (s : B) : ∀ p ∈ split s, p ≠ [] ∧ nobl p := wd_words s [] (fun _ hx => by cases hx)
/-- All lengths. -/
def lens (l : List B) : Nat := (l.map List.length).sum
theorem lens_cons (a : B) (l : List B) : lens (a :: l) = a.length + lens l := by simp [lens]
theorem wd_lens : ∀ (s cur : B), lens (wd cur s) + s.count 32 = cur.length + s.length
  | [], cur => by
    rw [wd]
    split
    · rename_i h; subst h; rfl
    · simp [lens]
  | c :: s, cur => by
    rw [wd, List.count_cons]
    split
    · rename_i hc
      subst hc
      split
      · rename_i h
        subst h
        have := wd_lens s []
        simp at this ⊢; omega
      · have := wd_lens s []
        rw [lens_cons]
        simp at this ⊢; omega
    · rename_i hc
      have := wd_lens s (cur ++ [c])
      rw [if_neg (by simpa using hc)]
      simp at this ⊢; omega
theorem split_lens (s : B) : lens (split s) + s.count 32 = s.length := by have := wd_lens s []; unfold split; simp at this; omega
/-- One word, itself. -/
theorem split_self (w : B) : split w = [w] ↔ w ≠ [] ∧ nobl w := by
  constructor
  · intro h
    exact split_words w w (by rw [h]; simp)
  · rintro ⟨h0, h⟩; exact split_word w h h0
theorem wd_len : ∀ (s cur : B), (wd cur s).length ≤ cur.length + s.length
  | [], cur => by
    rw [wd]; split
    · simp
    · rename_i h; have := List.length_pos_iff.2 h; simp; omega
  | c :: s, cur => by
    rw [wd]
    split
    · split
      · have := wd_len s []; simp at this ⊢; omega
      · rename_i h; have := List.length_pos_iff.2 h; have := wd_len s []; simp at this ⊢; omega
    · have := wd_len s (cur ++ [c]); simp at this ⊢; omega
theorem split_len (s : B) : (split s).length ≤ s.length := by have := wd_len s []; unfold split; simp at this; omega

/-- Digits, one by one. -/
def ng (most : Nat) : Nat → B → Option Nat
  | n, [] => some n
  | n, c :: r => if 48 ≤ c.toNat ∧ c.toNat ≤ 57 ∧ n * 10 + (c.toNat - 48) ≤ most then ng most (n * 10 + (c.toNat - 48)) r else none
/-- The number that a text tells. -/
def num (most : Nat) (s : B) : Option Nat := if 1 ≤ s.length ∧ s.length ≤ 20 then ng most 0 s else none
theorem ng_le {most : Nat} : ∀ {s : B} {n v : Nat}, n ≤ most → ng most n s = some v → v ≤ most
  | [], n, v, h, e => by simp [ng] at e; omega
  | c :: s, n, v, h, e => by
    rw [ng] at e
    split at e
    · rename_i hc; exact ng_le hc.2.2 e
    · cases e
theorem num_le {most : Nat} {s : B} {v : Nat} (e : num most s = some v) : v ≤ most := by
  unfold num at e
  split at e
  · exact ng_le (Nat.zero_le _) e
  · cases e
def nv (most : Nat) (s : B) : Nat := (num most s).getD 0
def nb (most : Nat) (s : B) : Bool := (num most s).isSome
theorem nv_le (most : Nat) (s : B) : nv most s ≤ most := by
  unfold nv
  cases e : num most s with
  | none => simp
  | some v => simpa using num_le e
/-- A signed number. -/
def sg (most : Nat) : B → Option Int
  | c :: r => if c = 45 then (num most r).map (fun (n : Nat) => -(n : Int)) else (num most (c :: r)).map (fun (n : Nat) => (n : Int))
  | [] => none
def gv (most : Nat) (s : B) : Int := (sg most s).getD 0
def gb (most : Nat) (s : B) : Bool := (sg most s).isSome
theorem sg_minus (most : Nat) (r : B) : gv most (45 :: r) = -(nv most r : Int) ∧ gb most (45 :: r) = nb most r := by
  have e : sg most (45 :: r) = (num most r).map (fun (n : Nat) => -(n : Int)) := by rw [sg, if_pos rfl]
  unfold gv gb nv nb
  rw [e]
  cases num most r <;> simp
theorem sg_plain (most : Nat) (s : B) (h : ∀ r, s ≠ 45 :: r) : gv most s = (nv most s : Int) ∧ gb most s = nb most s := by
  cases s with
  | nil => simp [gv, gb, nv, nb, sg, num]
  | cons c r =>
    have e : sg most (c :: r) = (num most (c :: r)).map (fun (n : Nat) => (n : Int)) := by rw [sg, if_neg (fun h1 => h r (by rw [h1]))]
    unfold gv gb nv nb
    rw [e]
    cases num most (c :: r) <;> simp
/-- May it be a key? -/
def key (s : B) : Bool := decide (1 ≤ s.length) && decide (s.length ≤ 250) && s.all fun c => decide (32 < c.toNat) && decide (c.toNat ≠ 127)
theorem key_word {s : B} (h : key s = true) : s ≠ [] ∧ nobl s := by
  simp only [key, Bool.and_eq_true, decide_eq_true_eq, List.all_eq_true] at h
  refine ⟨fun e => by subst e; simp at h, fun c hc e => ?_⟩
  subst e
  have := h.2 32 hc
  simp at this
theorem key_len {s : B} (h : key s = true) : s.length ≤ 250 := by
  simp only [key, Bool.and_eq_true, decide_eq_true_eq] at h
  exact h.1.2

/-- A request. -/
structure Rq where
  verb : Nat
  keys : List B
  flags : Int
  exp : Int
  bytes : Int
  cas : Int
  delta : Nat
  quiet : Bool
def Rq.none : Rq := ⟨0, [], 0, 0, 0, 0, 0, false⟩
/-- The verbs' words, at their numbers. -/
def tab : List B := [[], [103, 101, 116], [103, 101, 116, 115], [115, 101, 116], [97, 100, 100], [114, 101, 112, 108, 97, 99, 101], [97, 112, 112, 101, 110, 100], [112, 114, 101, 112, 101, 110, 100], [99, 97, 115], [100, 101, 108, 101, 116, 101], [105, 110, 99, 114], [100, 101, 99, 114], [116, 111, 117, 99, 104], [102, 108, 117, 115, 104, 95, 97, 108, 108], [118, 101, 114, 115, 105, 111, 110], [118, 101, 114, 98, 111, 115, 105, 116, 121], [115, 116, 97, 116, 115], [113, 117, 105, 116]]
def noreply : B := [110, 111, 114, 101, 112, 108, 121]
/-- The verb that a word names; 0: none. -/
def vbAt (l : B) : Nat → List B → Nat
  | _, [] => 0
  | i, t :: r => if t = l then i else vbAt l (i + 1) r
def vb (l : B) : Nat := vbAt l 0 tab
/-- What stands behind a verb's word: kinds, least, most, may noreply. -/
structure Fm where
  kinds : List Nat
  least : Nat
  most : Nat
  hush : Bool
def fm : Nat → Fm
  | 1 => ⟨[0], 1, 64, false⟩
  | 2 => ⟨[0], 1, 64, false⟩
  | 3 => ⟨[0, 1, 2, 3], 4, 4, true⟩
  | 4 => ⟨[0, 1, 2, 3], 4, 4, true⟩
  | 5 => ⟨[0, 1, 2, 3], 4, 4, true⟩
  | 6 => ⟨[0, 1, 2, 3], 4, 4, true⟩
  | 7 => ⟨[0, 1, 2, 3], 4, 4, true⟩
  | 8 => ⟨[0, 1, 2, 3, 4], 5, 5, true⟩
  | 9 => ⟨[0], 1, 1, true⟩
  | 10 => ⟨[0, 5], 2, 2, true⟩
  | 11 => ⟨[0, 5], 2, 2, true⟩
  | 12 => ⟨[0, 2], 2, 2, true⟩
  | 13 => ⟨[7], 0, 1, true⟩
  | 15 => ⟨[6], 1, 1, true⟩
  | _ => ⟨[], 0, 0, false⟩
/-- Is the last one a noreply beyond the least? -/
def hushed (f : Fm) (l : List B) : Bool := f.hush && (decide (f.least < l.length) && decide (l.getD (l.length - 1) [] = noreply))
def args (f : Fm) (l : List B) : List B := if hushed f l then l.take (l.length - 1) else l
/-- One argument. -/
def st (k : Nat) (s : B) (r : Rq) : Rq × Bool :=
  match k with
  | 0 => ({ r with keys := r.keys ++ [s] }, key s)
  | 1 => ({ r with flags := nv 4294967295 s }, nb 4294967295 s)
  | 2 => ({ r with exp := gv 1099511627776 s }, gb 1099511627776 s)
  | 3 => ({ r with bytes := nv 2147483647 s }, nb 2147483647 s)
  | 4 => ({ r with cas := nv 1099511627776 s }, nb 1099511627776 s)
  | 5 => ({ r with delta := nv 18446744073709551615 s }, nb 18446744073709551615 s)
  | 6 => (r, nb 4294967295 s)
  | 7 => (r, decide (s = [48]))
  | _ => (r, false)
/-- The kind at a place. -/
def kd (ks : List Nat) (i : Nat) : Nat := ks.getD (min i (ks.length - 1)) 0
/-- All arguments. -/
def rd (ks : List Nat) : Nat → List B → Rq → Option Rq
  | _, [], r => some r
  | i, s :: l, r => if (st (kd ks i) s r).2 then rd ks (i + 1) l (st (kd ks i) s r).1 else none
/-- What the arguments of a verb ask, and the error. -/
def lin (v : Nat) (l : List B) : Rq × Nat :=
  if v = 0 then (Rq.none, 4)
  else if (args (fm v) l).length < (fm v).least ∨ (fm v).most < (args (fm v) l).length then (Rq.none, 4)
  else match rd (fm v).kinds 0 (args (fm v) l) Rq.none with
    | none => (Rq.none, 1)
    | some r => ({ r with verb := v, quiet := hushed (fm v) l }, 0)
/-- What a line asks. -/
def line (s : B) : Rq × Nat :=
  match split s with
  | [] => (Rq.none, 4)
  | w :: l => lin (vb w) l
end Go.Proofs.YtedbklipbfbmoaaDoor
