/-
  THE PARSER, PLAIN: what one byte makes, what many make; what each state takes off a piece.
-/
import Derived.Test.YtedbklipbfbmoaaDoorRuns
import Derived.Lib.Bytealg
import Derived.Lib.Strings
namespace Go.Proofs.YtedbklipbfbmoaaDoor

/-- An event: a request and its data, or an answer. -/
structure Ev where
  rq : Rq
  data : B
  kind : Nat
  text : B
def Ev.none : Ev := ⟨Rq.none, [], 0, []⟩
def ans (k : Nat) (t : B) : Ev := ⟨Rq.none, [], k, t⟩
def req (r : Rq) (d : B) : Ev := ⟨r, d, 0, []⟩
/-- What an event adds. -/
def evs (e : Ev) : List Ev := if e.rq.verb = 0 ∧ e.kind = 0 then [] else [e]
theorem evs_none : evs Ev.none = [] := rfl
theorem evs_len (e : Ev) : (evs e).length ≤ 1 := by unfold evs; split <;> simp
/-- Where the bytes have come to. -/
structure Ps where
  st : Nat
  left : B
  rq : Rq
  past : Nat
def pz (s : Nat) : Ps := ⟨s, [], Rq.none, 0⟩
def badLine : B := [98, 97, 100, 32, 99, 111, 109, 109, 97, 110, 100, 32, 108, 105, 110, 101, 32, 102, 111, 114, 109, 97, 116]
def badData : B := [98, 97, 100, 32, 100, 97, 116, 97, 32, 99, 104, 117, 110, 107]
def tooLarge : B := [111, 98, 106, 101, 99, 116, 32, 116, 111, 111, 32, 108, 97, 114, 103, 101, 32, 102, 111, 114, 32, 99, 97, 99, 104, 101]
def trim (l : B) : B := Lib.trimSuffix l [13]
/-- What a line's reading makes. -/
def obeyR (r : Rq × Nat) : Ps × Ev :=
  if r.2 = 4 then (pz 0, ans 12 [])
  else if r.2 ≠ 0 then (pz 0, ans 13 badLine)
  else if r.1.verb = 17 then (pz 4, ans 15 [])
  else if 3 ≤ r.1.verb ∧ r.1.verb ≤ 8 then
    (if r.1.bytes ≤ 1048576 then (⟨1, [], r.1, 0⟩, Ev.none)
     else (⟨2, [], Rq.none, (r.1.bytes + 2).toNat⟩, if r.1.quiet = true then Ev.none else ans 14 tooLarge))
  else (pz 0, req r.1 [])
def obey (l : B) : Ps × Ev := obeyR (line l)
def stepD (n : Nat) (p : Ps) (c : UInt8) : Ps × Ev :=
  if p.left.length < n then ({ p with left := p.left ++ [c] }, Ev.none)
  else if c ≠ (if p.left.length = n then 13 else 10) then (if c = 10 then pz 0 else pz 3, ans 13 badData)
  else if p.left.length = n then ({ p with left := p.left ++ [c] }, Ev.none)
  else (pz 0, req p.rq (p.left.take n))
def step (p : Ps) (c : UInt8) : Ps × Ev :=
  if p.st = 0 then
    (if c = 10 then obey (trim p.left) else if p.left.length < 2048 then ({ p with left := p.left ++ [c] }, Ev.none) else (pz 4, ans 15 []))
  else if p.st = 1 then stepD p.rq.bytes.toNat p c
  else if p.st = 2 then (if p.past ≤ 1 then pz 0 else { p with past := p.past - 1 }, Ev.none)
  else if p.st = 3 then (if c = 10 then pz 0 else p, Ev.none)
  else (p, Ev.none)
/-- Many bytes. -/
def feed : Ps → B → Ps × List Ev
  | p, [] => (p, [])
  | p, c :: r => ((feed (step p c).1 r).1, evs (step p c).2 ++ (feed (step p c).1 r).2)
/-- First an event, then what the rest makes. -/
def thn (e : Ev) (r : Ps × List Ev) : Ps × List Ev := (r.1, evs e ++ r.2)
theorem thn_none (r : Ps × List Ev) : thn Ev.none r = r := rfl
theorem feed_cons (p : Ps) (c : UInt8) (r : B) : feed p (c :: r) = thn (step p c).2 (feed (step p c).1 r) := rfl
theorem feed_nil (p : Ps) : feed p [] = (p, []) := rfl
theorem feed_app (b : B) : ∀ (a : B) (p : Ps), feed p (a ++ b) = ((feed (feed p a).1 b).1, (feed p a).2 ++ (feed (feed p a).1 b).2)
  | [], p => rfl
  | c :: a, p => by
    rw [List.cons_append, feed_cons, feed_app b a, feed_cons]
    simp [thn, List.append_assoc]
theorem feed_len : ∀ (b : B) (p : Ps), (feed p b).2.length ≤ b.length
  | [], _ => Nat.le_refl _
  | c :: b, p => by
    rw [feed_cons]
    have := feed_len b (step p c).1
    have := evs_len (step p c).2
    simp only [thn, List.length_append, List.length_cons]; omega
/-- A run that makes nothing. -/
theorem feed_go {p q : Ps} {a : B} (h : feed p a = (q, [])) (b : B) : feed p (a ++ b) = feed q b := by rw [feed_app, h]; rfl
theorem feed_shut : ∀ (b : B), feed (pz 4) b = (pz 4, [])
  | [] => rfl
  | c :: b => by rw [feed_cons, show step (pz 4) c = (pz 4, Ev.none) from rfl, thn_none, feed_shut b]
/-- Bytes that are gone past. -/
def pp (k : Nat) : Ps := ⟨2, [], Rq.none, k⟩
theorem step_pp (k : Nat) (c : UInt8) : step (pp k) c = (if k ≤ 1 then pz 0 else pp (k - 1), Ev.none) := rfl
theorem feed_pp_few : ∀ (b : B) (k : Nat), b.length < k → feed (pp k) b = (pp (k - b.length), [])
  | [], k, _ => rfl
  | c :: b, k, h => by
    simp only [List.length_cons] at h
    rw [feed_cons, step_pp, if_neg (by omega)]
    show feed (pp (k - 1)) b = _
    rw [feed_pp_few b (k - 1) (by omega), List.length_cons, show k - 1 - b.length = k - (b.length + 1) by omega]
theorem feed_pp_all : ∀ (a : B) (k : Nat) (b : B), a.length = k → 1 ≤ k → feed (pp k) (a ++ b) = feed (pz 0) b
  | [], k, b, h, h1 => by simp at h; omega
  | c :: a, k, b, h, h1 => by
    simp only [List.length_cons] at h
    rw [List.cons_append, feed_cons, step_pp]
    by_cases hk : k ≤ 1
    · have : a = [] := List.eq_nil_of_length_eq_zero (by omega)
      subst this
      rw [if_pos hk]; rfl
    · rw [if_neg hk]
      exact feed_pp_all a (k - 1) b (by omega) (by omega)
/-- As the program does it. -/
theorem feed_pp {k : Nat} (hk : 1 ≤ k) (b : B) : feed (pp k) b = feed (if k - min k b.length = 0 then pz 0 else pp (k - min k b.length)) (b.drop (min k b.length)) := by
  by_cases h : b.length < k
  · rw [feed_pp_few b k h, Nat.min_eq_right (by omega), if_neg (by omega), List.drop_length, feed_nil]
  · have e : b = b.take k ++ b.drop k := (List.take_append_drop k b).symm
    rw [Nat.min_eq_left (by omega), if_pos (by omega)]
    conv => lhs; rw [e]
    exact feed_pp_all _ k _ (by rw [List.length_take]; omega) hk
/-- The rest of a line that nothing is made of. -/
theorem step_3 (c : UInt8) : step (pz 3) c = (if c = 10 then pz 0 else pz 3, Ev.none) := rfl
theorem feed_3 : ∀ (b : B), 10 ∉ b → feed (pz 3) b = (pz 3, [])
  | [], _ => rfl
  | c :: b, h => by
    rw [feed_cons, step_3, if_neg (fun e => h (by rw [e]; simp)), thn_none, feed_3 b (fun x => h (by simp [x]))]
theorem feed_3_end (a r : B) (h : 10 ∉ a) : feed (pz 3) (a ++ 10 :: r) = feed (pz 0) r := by
  rw [feed_go (feed_3 a h), feed_cons, step_3, if_pos rfl, thn_none]
/-- In a line. -/
def pl (l : B) : Ps := ⟨0, l, Rq.none, 0⟩
theorem step_pl (l : B) (c : UInt8) : step (pl l) c = if c = 10 then obey (trim l) else if l.length < 2048 then (pl (l ++ [c]), Ev.none) else (pz 4, ans 15 []) := rfl
theorem feed_pl : ∀ (a l : B), 10 ∉ a → l.length + a.length ≤ 2048 → feed (pl l) a = (pl (l ++ a), [])
  | [], l, _, _ => by rw [List.append_nil]; rfl
  | c :: a, l, h, hl => by
    simp only [List.length_cons] at hl
    rw [feed_cons, step_pl, if_neg (fun e => h (by rw [e]; simp)), if_pos (by omega), thn_none, feed_pl a (l ++ [c]) (fun x => h (by simp [x])) (by simp; omega), List.append_assoc]
    rfl
theorem feed_pl_end (a r l : B) (h : 10 ∉ a) (hl : l.length + a.length ≤ 2048) : feed (pl l) (a ++ 10 :: r) = thn (obey (trim (l ++ a))).2 (feed (obey (trim (l ++ a))).1 r) := by
  rw [feed_go (feed_pl a l h hl), feed_cons, step_pl, if_pos rfl]
theorem feed_pl_long (a r l : B) (h : 10 ∉ a) (hl : 2048 < l.length + a.length) (h0 : l.length ≤ 2048) : feed (pl l) (a ++ r) = (pz 4, [ans 15 []]) := by
  obtain ⟨k, hk⟩ : ∃ k, l.length + k = 2048 := ⟨2048 - l.length, by omega⟩
  have hka : k < a.length := by omega
  obtain ⟨c, t, e⟩ : ∃ c t, a.drop k = c :: t := ⟨_, _, List.drop_eq_getElem_cons hka⟩
  have ea : a = a.take k ++ c :: t := by rw [← e]; exact (List.take_append_drop k a).symm
  have hc : c ≠ 10 := fun e1 => h (by rw [ea, e1]; simp)
  have ht : 10 ∉ a.take k := fun e1 => h (List.mem_of_mem_take e1)
  rw [ea, List.append_assoc, feed_go (feed_pl _ l ht (by rw [List.length_take]; omega)), List.cons_append, feed_cons, step_pl, if_neg hc, if_neg (by rw [List.length_append, List.length_take]; omega), feed_shut]
  rfl
/-- In data. -/
def pd (l : B) (q : Rq) : Ps := ⟨1, l, q, 0⟩
theorem step_pd (l : B) (q : Rq) (c : UInt8) : step (pd l q) c = if l.length < q.bytes.toNat then (pd (l ++ [c]) q, Ev.none) else if c ≠ (if l.length = q.bytes.toNat then 13 else 10) then (if c = 10 then pz 0 else pz 3, ans 13 badData) else if l.length = q.bytes.toNat then (pd (l ++ [c]) q, Ev.none) else (pz 0, req q (l.take q.bytes.toNat)) := rfl
theorem feed_pd (q : Rq) : ∀ (a l : B), l.length + a.length ≤ q.bytes.toNat → feed (pd l q) a = (pd (l ++ a) q, [])
  | [], l, _ => by rw [List.append_nil]; rfl
  | c :: a, l, h => by
    simp only [List.length_cons] at h
    rw [feed_cons, step_pd, if_pos (show l.length < _ by omega), thn_none, feed_pd q a (l ++ [c]) (by simp; omega), List.append_assoc]
    rfl
/-- A byte that doesn't end them. -/
theorem feed_pd_bad (q : Rq) (l : B) (c : UInt8) (r : B) (h : q.bytes.toNat ≤ l.length) (hc : c ≠ if l.length = q.bytes.toNat then 13 else 10) : feed (pd l q) (c :: r) = thn (ans 13 badData) (feed (pz 3) (c :: r)) := by
  rw [feed_cons, step_pd, if_neg (show ¬ l.length < _ by omega), if_pos hc, feed_cons, step_3, thn_none]
theorem feed_pd_13 (q : Rq) (l : B) (r : B) (h : l.length = q.bytes.toNat) : feed (pd l q) (13 :: r) = feed (pd (l ++ [13]) q) r := by
  rw [feed_cons, step_pd, if_neg (by omega), if_neg (by rw [if_pos h]; simp), if_pos h, thn_none]
theorem feed_pd_10 (q : Rq) (l : B) (r : B) (h : l.length = q.bytes.toNat + 1) : feed (pd l q) (10 :: r) = thn (req q (l.take q.bytes.toNat)) (feed (pz 0) r) := by
  rw [feed_cons, step_pd, if_neg (by omega), if_neg (by rw [if_neg (by omega)]; simp), if_neg (by omega)]
/-- Where the first such byte stands. -/
theorem index_no {l : B} {c : UInt8} (h : c ∉ l) : Lib.indexByte l c = -1 := by
  induction l with
  | nil => rfl
  | cons a l ih =>
    rw [Lib.indexByte, if_neg (by simp; intro e; exact h (by rw [e]; simp)), ih (fun x => h (by simp [x]))]
    rfl
theorem index_at (a r : B) (c : UInt8) (h : c ∉ a) : Lib.indexByte (a ++ c :: r) c = (a.length : Int) := by
  induction a with
  | nil => simp [Lib.indexByte]
  | cons x a ih =>
    have hx : ¬ (x == c) = true := by simp; intro e; exact h (by rw [e]; simp)
    have ih' := ih (fun y => h (by simp [y]))
    rw [List.cons_append, Lib.indexByte, if_neg hx, ih', if_neg (by simp), List.length_cons]
    omega
theorem cut_at {l : B} {c : UInt8} (h : c ∈ l) : ∃ a r, l = a ++ c :: r ∧ c ∉ a := by
  induction l with
  | nil => cases h
  | cons x l ih =>
    by_cases e : x = c
    · exact ⟨[], l, by rw [e]; rfl, by simp⟩
    · obtain ⟨a, r, h1, h2⟩ := ih (by rcases List.mem_cons.1 h with h | h; exact absurd h.symm e; exact h)
      exact ⟨x :: a, r, by rw [h1]; rfl, fun hm => by rcases List.mem_cons.1 hm with h | h; exact e h.symm; exact h2 h⟩
/-- What a line's reading may be. -/
theorem rd_bytes (ks : List Nat) : ∀ (l : List B) (i : Nat) (r r' : Rq), rd ks i l r = some r' → 0 ≤ r.bytes → r.bytes ≤ 2147483647 → 0 ≤ r'.bytes ∧ r'.bytes ≤ 2147483647
  | [], _, r, r', h, h0, h1 => by cases h; exact ⟨h0, h1⟩
  | s :: l, i, r, r', h, h0, h1 => by
    rw [rd] at h
    split at h
    · refine rd_bytes ks l (i + 1) _ r' h ?_ ?_ <;>
      · generalize kd ks i = k
        unfold st
        split
        all_goals first | exact h0 | exact h1 | (have := nv_le 2147483647 s; simp only; omega)
    · cases h
theorem line_bytes (s : B) : 0 ≤ (line s).1.bytes ∧ (line s).1.bytes ≤ 2147483647 := by
  unfold line
  split
  · exact ⟨by decide, by decide⟩
  · unfold lin
    split
    · exact ⟨by decide, by decide⟩
    · split
      · exact ⟨by decide, by decide⟩
      · split
        · exact ⟨by decide, by decide⟩
        · rename_i r h
          exact rd_bytes _ _ _ _ r h (by decide) (by decide)
theorem line_verb (s : B) : (line s).1.verb < 18 := by
  unfold line
  split
  · exact (by decide)
  · rename_i w l _
    unfold lin
    have := vb_lt w
    split
    · exact (by decide)
    · split
      · exact (by decide)
      · split
        · exact (by decide)
        · exact this
theorem line_err (s : B) : (line s).2 = 0 ∨ (line s).2 = 1 ∨ (line s).2 = 4 := by
  unfold line
  split
  · exact .inr (.inr rfl)
  · unfold lin
    split
    · exact .inr (.inr rfl)
    · split
      · exact .inr (.inr rfl)
      · split
        · exact .inr (.inl rfl)
        · exact .inl rfl
theorem line_none (s : B) (h : (line s).2 ≠ 0) : (line s).1 = Rq.none := by
  unfold line at h ⊢
  split
  · rfl
  · rename_i hw
    simp only [hw] at h
    unfold lin at h ⊢
    split
    · rfl
    · rename_i h1
      rw [if_neg h1] at h
      split
      · rfl
      · rename_i h2
        rw [if_neg h2] at h
        split
        · rfl
        · rename_i hr
          rw [hr] at h
          exact absurd rfl h
theorem line_pos (s : B) (h : (line s).2 = 0) : 1 ≤ (line s).1.verb := by
  unfold line at h ⊢
  split
  · rename_i hw; rw [hw] at h; cases h
  · rename_i hw
    simp only [hw] at h
    unfold lin at h ⊢
    split
    · rename_i h1; rw [if_pos h1] at h; cases h
    · rename_i h1
      rw [if_neg h1] at h
      split
      · rename_i h2; rw [if_pos h2] at h; cases h
      · rename_i h2
        rw [if_neg h2] at h
        split
        · rename_i hr; rw [hr] at h; cases h
        · show 1 ≤ vb _; omega
/-- What a parser may be. -/
def Okp (p : Ps) : Prop :=
  ((p.left.length ≤ 2048 ∧ p = pl p.left) ∨ (3 ≤ p.rq.verb ∧ p.rq.verb ≤ 8 ∧ 0 ≤ p.rq.bytes ∧ p.rq.bytes ≤ 1048576 ∧ p.left.length ≤ p.rq.bytes.toNat + 1 ∧ p = pd p.left p.rq) ∨ (1 ≤ p.past ∧ p.past ≤ 2147483649 ∧ p = pp p.past) ∨ p = pz 3 ∨ p = pz 4) ∧
  feed { p with left := [] } p.left = (p, [])
theorem okp_pz (s : Nat) (h : s = 0 ∨ s = 3 ∨ s = 4) : Okp (pz s) := by
  refine ⟨?_, rfl⟩
  rcases h with rfl | rfl | rfl
  · exact .inl ⟨by simp [pz], rfl⟩
  · exact .inr (.inr (.inr (.inl rfl)))
  · exact .inr (.inr (.inr (.inr rfl)))
theorem okp_pp {k : Nat} (h1 : 1 ≤ k) (h2 : k ≤ 2147483649) : Okp (pp k) := ⟨.inr (.inr (.inl ⟨h1, h2, rfl⟩)), rfl⟩
theorem okp_obey (l : B) : Okp (obey l).1 := by
  unfold obey
  obtain ⟨h0, h1⟩ := line_bytes l
  have hv := line_verb l
  generalize line l = r at *
  unfold obeyR
  split
  · exact okp_pz 0 (.inl rfl)
  · split
    · exact okp_pz 0 (.inl rfl)
    · split
      · exact okp_pz 4 (.inr (.inr rfl))
      · split
        · rename_i h38
          split
          · rename_i hb
            exact ⟨.inr (.inl ⟨h38.1, h38.2, h0, hb, by simp, rfl⟩), rfl⟩
          · exact okp_pp (by omega) (by omega)
        · exact okp_pz 0 (.inl rfl)
theorem okp_step {p : Ps} (h : Okp p) (c : UInt8) : Okp (step p c).1 := by
  obtain ⟨h, hf⟩ := h
  have more : ∀ l, p.left = l → (step p c) = ({ p with left := l ++ [c] }, Ev.none) → feed { p with left := [] } (l ++ [c]) = ({ p with left := l ++ [c] }, []) := fun l hl e => by
    rw [hl] at hf
    rw [feed_go hf, feed_cons, e, thn_none, feed_nil]
  rcases h with ⟨hl, e⟩ | ⟨h3, h8, b0, b1, hl, e⟩ | ⟨k1, k2, e⟩ | e | e
  · obtain ⟨l, hl'⟩ : ∃ l, p.left = l := ⟨_, rfl⟩
    rw [hl'] at e hl
    have hm := more l hl'
    rw [e] at hm ⊢
    rw [step_pl] at hm ⊢
    by_cases c10 : c = 10
    · rw [if_pos c10]; exact okp_obey _
    · rw [if_neg c10] at hm ⊢
      by_cases h2 : l.length < 2048
      · rw [if_pos h2] at hm ⊢
        exact ⟨.inl ⟨by simp [pl]; omega, rfl⟩, hm rfl⟩
      · rw [if_neg h2]; exact okp_pz 4 (.inr (.inr rfl))
  · obtain ⟨l, hl'⟩ : ∃ l, p.left = l := ⟨_, rfl⟩
    obtain ⟨q, hq⟩ : ∃ q, p.rq = q := ⟨_, rfl⟩
    rw [hl'] at e hl
    rw [hq] at e hl b0 b1 h3 h8
    have hm := more l hl'
    rw [e] at hm ⊢
    rw [step_pd] at hm ⊢
    by_cases c1 : l.length < q.bytes.toNat
    · rw [if_pos c1] at hm ⊢
      have c1' : l.length < q.bytes.toNat := c1
      exact ⟨.inr (.inl ⟨h3, h8, b0, b1, by show (l ++ [c]).length ≤ q.bytes.toNat + 1; simp; omega, rfl⟩), hm rfl⟩
    · rw [if_neg c1] at hm ⊢
      by_cases c2 : c ≠ (if l.length = q.bytes.toNat then 13 else 10)
      · rw [if_pos c2]
        show Okp (if c = 10 then pz 0 else pz 3)
        split
        · exact okp_pz 0 (.inl rfl)
        · exact okp_pz 3 (.inr (.inl rfl))
      · rw [if_neg c2] at hm ⊢
        by_cases c3 : l.length = q.bytes.toNat
        · rw [if_pos c3] at hm ⊢
          have c3' : l.length = q.bytes.toNat := c3
          exact ⟨.inr (.inl ⟨h3, h8, b0, b1, by show (l ++ [c]).length ≤ q.bytes.toNat + 1; simp; omega, rfl⟩), hm rfl⟩
        · rw [if_neg c3]; exact okp_pz 0 (.inl rfl)
  · rw [e, step_pp]
    show Okp (if p.past ≤ 1 then pz 0 else pp (p.past - 1))
    split
    · exact okp_pz 0 (.inl rfl)
    · exact okp_pp (by omega) (by omega)
  · rw [e, step_3]
    show Okp (if c = 10 then pz 0 else pz 3)
    split
    · exact okp_pz 0 (.inl rfl)
    · exact okp_pz 3 (.inr (.inl rfl))
  · rw [e]; exact okp_pz 4 (.inr (.inr rfl))
theorem okp_feed : ∀ (b : B) {p : Ps}, Okp p → Okp (feed p b).1
  | [], _, h => h
  | c :: b, _, h => okp_feed b (okp_step h c)
end Go.Proofs.YtedbklipbfbmoaaDoor
